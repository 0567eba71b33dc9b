/-
  A disk: bytes that a law makes, and reads; wakes.
  A disk: what the row says of a script; heavy; what was flushed is kept.
-/
import Derived.Test.YtcglmkcefenjcaaDkV
import Derived.Test.YtcglmkcefenjcaaReadZ
import Derived.Test.YtcglmkcefenjcaaReadM
import Derived.Test.YtcglmkcefenjcaaWithin
namespace Go.Proofs.Ytcglmkcefenjcaa
open Go.RowKit Go.Lib
/-- So many noughts. -/
def zL (n : Nat) : List UInt8 := List.replicate n 0
theorem zrow {W : World} {B g n c : Nat} (h : W.ownsRow B 5 1 (.slice (some ⟨g, 0, none⟩) n c) n (List.replicate n (.int .u8 0))) : RowAt W g ((zL n).map B8) := by
  have e : (zL n).map B8 = List.replicate n (.int .u8 0) := by unfold zL; rw [List.map_replicate]; rfl
  rw [e]; exact own_rowD h
theorem slR {W : World} {q i n c : Nat} {l l' : List UInt8} (h : RowAt W q (l.map B8)) (e : (l.drop i).take n = l') (hi : i + n ≤ l.length) (hc : n ≤ c) (hm : c ≤ maxLen) : Sl W (.slice (some ⟨q, i, none⟩) n c) l' := by
  subst e
  have hl : ((l.drop i).take n).length = n := by simp; omega
  refine ⟨some ⟨q, i, none⟩, c, by rw [hl], by omega, by omega, fun e => (nomatch e), fun _ => ⟨q, i, rfl, h.2.2, fun j x hj => ?_⟩⟩
  rw [List.getElem?_take] at hj
  split at hj
  · rw [List.getElem?_drop] at hj
    exact h.1 (i + j) (B8 x) (by rw [List.getElem?_map, hj]; rfl)
  · cases hj
theorem idx8 (b off n cap i : Nat) (hi : i < n) (w : World) : (Instr.indexAt 29 (.slice (some ⟨b, off, none⟩) n cap) (.int .i64 (i : Int))).run Try.prog w = .ok (.pointer (some ⟨b, off + i, none⟩)) w := by
  have h2 : ¬ n ≤ i := by omega
  simp [go_sem, Instr.indexAt, h2]
theorem st8 {l : List UInt8} (j : Nat) (x : UInt8) (hj : j < l.length) : stB (l.map B8) j [B8 x] = true ∧ setR (l.map B8) j [B8 x] = (l.set j x).map B8 := by
  constructor
  · unfold stB
    rw [Bool.and_eq_true]
    exact ⟨Nat.ble_eq_true_of_le (by simp only [List.length_cons, List.length_nil, List.length_map]; omega), rfl⟩
  · rw [setR_eq]
    simp [setL, List.map_set]
theorem eql8 (x y : Int) (w : World) : (binOp .eql 5 (.int .u8 x) (.int .u8 y)).run Try.prog w = .ok (.bool (x == y)) w := by simp [go_sem]
theorem neq8 (x y : Int) (w : World) : (binOp .neq 5 (.int .u8 x) (.int .u8 y)).run Try.prog w = .ok (.bool (!(x == y))) w := by simp [go_sem, bne]
theorem gtr8 (x y : Int) (w : World) : (binOp .gtr 5 (.int .u8 x) (.int .u8 y)).run Try.prog w = .ok (.bool (decide (y < x))) w := by simp [go_sem]
theorem gU8 (x y : Int) (op : BinOp) (a b : Operand) (w : World) : (eqGuard op 5 a b (.int .u8 x) (.int .u8 y)).run Try.prog w = .ok () w := by cases op <;> rfl
theorem Dall.ask {d : ED} (h : Dall d) (k n : Int) (b : List UInt8) (hk : k = 0 ∨ k = 1 ∨ k = 2) (hn : k = 2 → n = 0) (h1 : d.last ≤ 999999) (h2 : d.ps.length ≤ 99999) : Dall (askD d k n b) := by
  refine ⟨h.ok.askD k n b hk hn, h.arm.askD k n b, ?_, ?_⟩
  · have := h.last
    unfold askD
    split
    · show 0 ≤ d.last + 1 ∧ d.last + 1 ≤ 1000000; omega
    · rw [(powD_same d).2.2.2.2.2]; omega
  · unfold askD
    split
    · show (d.ps ++ [_]).length ≤ 100000; simp; omega
    · rw [(powD_same d).2.2.2.2.1]; exact h.len
theorem Dall.comp {d : ED} (h : Dall d) (n : Int) : Dall (compD d n) := by
  refine ⟨h.ok.compD n, h.arm.compD n, ?_, ?_⟩
  · have := h.last
    unfold compD
    split
    · rw [(perfD_pow _ _).2.2.2]; show 0 ≤ (powD d).last ∧ _; rw [(powD_same d).2.2.2.2.2]; exact this
    · rw [(powD_same d).2.2.2.2.2]; exact this
  · unfold compD
    split
    · rw [(perfD_len _ _).2]; exact Nat.le_trans (List.length_eraseIdx_le ..) h.len
    · rw [(powD_same d).2.2.2.2.1]; exact h.len
theorem Dall.off {d : ED} (h : Dall d) (n : Int) (hn : n < 9223372036854775808) : Dall (offD d n) := ⟨h.ok.offD n, armOK.offD n hn, h.last, h.len⟩
theorem Dall.crash {d : ED} (h : Dall d) : Dall { d with off := true } := ⟨h.ok.crash, fun _ h2 => (nomatch h2), h.last, h.len⟩
theorem Dall.new {b : List UInt8} (h : newOK b = true) : Dall (newD b) := ⟨(newD_ok h).1, (newD_ok h).2, ⟨Int.le_refl _, show (0 : Int) ≤ 1000000 by decide⟩, Nat.zero_le _⟩
theorem num4_any (e : Int) (w : World) : Calls Try.prog 32 #[.int .i64 e] w fun z w' => z = .returned (.int .i64 e) ∧ w = w' := by
  refine fw_en 4 [(0, .int .i64 e)] Try.func32 rfl Try.ntmps32 rfl ⟨rfl, trivial⟩ ?_
  refine fw_sq ?_
  refine fw_rg rfl ?_
  refine fw_pu rfl ?_
  refine fw_dt ?_
  refine fw_sq ?_
  refine fw_rg rfl ?_
  iterate 2 refine fw_pu rfl ?_
  refine fw_dt ?_
  refine fw_rt ?_
  refine ⟨fun a h => ?_⟩
  exact ow_ret1 rfl h.df (h.g 2 rfl) ⟨rfl, rfl⟩
theorem ptrG (op : BinOp) (x y : Operand) (a : Addr) (w : World) : (eqGuard op 50 x y (.pointer (some a)) (.pointer none)).run Try.prog w = .ok () w := by cases op <;> rfl
theorem ptrEq (a : Addr) (w : World) : (binOp .eql 50 (.pointer (some a)) (.pointer none)).run Try.prog w = .ok (.bool false) w := by simp [go_sem]
theorem ptrNe (a : Addr) (w : World) : (binOp .neq 50 (.pointer (some a)) (.pointer none)).run Try.prog w = .ok (.bool true) w := by simp [go_sem]
theorem dNew {b : List UInt8} {va : Option Addr} {vc n : Nat} {w : World} {d : ED} (hSl : Sl w (.slice va n vc) b) (hn : b.length = n) (hok : newOK b = true) (hd : newD b = d) (hbl : n ≤ 1000000) :
    Calls Try.prog 30 #[.slice va n vc] w fun e w' => ∃ q, e = .returned (.tuple #[.pointer (some ⟨q, 0, none⟩), .int .i64 0]) ∧ w.heap.size ≤ q ∧ Dk w.heap.size [] q d w' ∧ Below w.heap.size w w' := by
  subst hn hd
  refine (new_any hSl hbl).mono ?_
  rintro e w' (⟨h1, -⟩ | ⟨-, h⟩)
  · rw [hok] at h1; cases h1
  · exact h
theorem slR_nil (W : World) : SlR W 1 (.slice none 0 0) (([] : List Int).map intR) := ⟨none, 0, rfl, Nat.zero_le _, Nat.zero_le _, fun _ => rfl, fun h => (h rfl).elim⟩
set_option maxRecDepth 100000 in
theorem scr_form {w : World} {cs : List Value} (h : RdZ Try.prog w 48 cs) : ∃ aB nB cB aL nL cL, cs = [.slice aB nB cB, .slice aL nL cL] := by
  obtain ⟨hlen, hf⟩ := h.struct Try.underlying48
  have h2 : cs.length = 2 := hlen.trans (by kernel_rfl)
  match cs, h2 with
  | [c0, c1], _ =>
    obtain ⟨v0, B, k0, ⟨a0, cap0, rfl, -⟩, -⟩ := (hf 0 _ rfl).bytes Try.underlying29 (by kernel_rfl) (by kernel_rfl) Try.underlying5
    obtain ⟨v1, L, k1, a1, cap1, rfl, -⟩ := (hf 1 _ rfl).rd.slOf (p := fun _ _ _ (_ : Unit) => True) (size := 4) Try.underlying46 (by kernel_rfl) (by decide) (fun b off cs hb hc hr => ⟨(), trivial⟩)
    have f0 : c0 = .slice a0 B.length cap0 := by simpa [show Try.prog.cellsOf 29 = 1 by kernel_rfl] using k0
    have f1 : c1 = .slice a1 L.length cap1 := by simpa [show Try.prog.cellsOf 46 = 1 by kernel_rfl] using k1
    subst f0 f1
    exact ⟨_, _, _, _, _, _, rfl⟩
def bV : List UInt8 := (zL 64).set 3 7
def v0 : ED := newD (zL 128)
def v1 : ED := askD v0 0 1 bV
def v2 : ED := askD v1 2 0 []
def v3 : ED := compD v2 0
def v4 : ED := compD v3 0
def xV : List UInt8 := crashD v4 []
theorem v0_all : Dall v0 := Dall.new (by decide +kernel)
theorem v1_all : Dall v1 := v0_all.ask 0 1 bV (.inl rfl) (fun h => (nomatch h)) (by decide +kernel) (by decide +kernel)
theorem v2_all : Dall v2 := v1_all.ask 2 0 [] (.inr (.inr rfl)) (fun _ => rfl) (by decide +kernel) (by decide +kernel)
theorem v3_all : Dall v3 := v2_all.comp 0
theorem v4_all : Dall v4 := v3_all.comp 0
set_option maxRecDepth 100000 in
set_option maxHeartbeats 4000000 in
theorem wakes4_any (w : World) : Calls Try.prog 33 #[] w fun e w' => e = .returned (.bool true) ∧ Below w.heap.size w w' := by
  have hb0 := Below.refl w.heap.size w
  obtain ⟨iU8, hiU8, hzU8, hsU8, hbU8⟩ := info_parts infoU8
  refine fw_en 84 [] Try.func33 rfl Try.ntmps33 rfl trivial ?_
  refine fw_sq ?_
  refine fw_rg rfl ?_
  refine fw_pu rfl ?_
  refine fw_dt ?_
  refine fw_sq ?_
  refine fw_rg rfl ?_
  refine fw_to 16 rfl rfl rfl (fun a h => opTo_make 29 5 _ 128 (.int .u8 0) iU8 rfl Try.underlying29 hiU8 hzU8 hsU8 (by rw [hbU8]; decide) rfl (h.ev rfl) (by decide)) ?_
  rintro vz2 W1 ⟨hv2, ho2, hb2⟩
  obtain ⟨gz2, hg2⟩ : ∃ x, x = w.heap.size := ⟨_, rfl⟩
  rw [← hg2] at hv2
  subst hv2
  rw [← hg2] at ho2
  have hr2 := zrow ho2
  have he2 : w.heap.size ≤ gz2 := Nat.le_of_eq hg2.symm
  have := Nat.le_trans hb0.size he2
  have b3 := hb0.trans (hb2.mono hb0.size)
  obtain ⟨Bd5, hBd5⟩ : ∃ x, x = W1.heap.size := ⟨_, rfl⟩
  have hwB5 : w.heap.size ≤ Bd5 := by rw [hBd5]; exact b3.size
  have hl5_gz2 : gz2 < Bd5 := by rw [hBd5]; exact hr2.2.2
  refine fw_ca Try.func30 rfl rfl rfl (dNew (b := zL 128) (n := 128) (slR (i := 0) (c := 128) hr2 (by decide +kernel) (by decide) (by decide) (by decide)) rfl (by decide +kernel) rfl (by decide)) ?_
  rintro _ V4 ⟨q5, rfl, hq5, hM5, hB5⟩
  refine ⟨_, rfl, ?_⟩
  rw [← hBd5] at hM5 hq5
  have b6 := b3.trans (hB5.mono b3.size)
  have r7 := hr2.below hB5
  have : gz2 ≠ q5 := by omega
  have hd5 := (hM5).qlt
  iterate 5 refine fw_pu rfl ?_
  refine fw_dt ?_
  refine fw_sq ?_
  refine fw_sq ?_
  refine fw_rg rfl ?_
  refine fw_pu rfl ?_
  refine fw_ca Try.func32 rfl rfl rfl ((num4_any 0 V4)) ?_
  rintro _ _ ⟨rfl, rfl⟩
  refine ⟨(.int .i64 0), rfl, ?_⟩
  iterate 3 refine fw_pu rfl ?_
  refine fw_ex 25 (.bool false) rfl rfl rfl (fun a h => (run_binOp (h.ev rfl) (h.ev rfl) (ptrG _ _ _ _ _) (ptrEq _ _))) ?_
  refine fw_pu rfl ?_
  refine fw_dt ?_
  refine fw_cF rfl rfl ?_
  refine fw_sk ?_
  refine fw_th ?_
  refine fw_sq ?_
  refine fw_rg rfl ?_
  refine fw_to 27 rfl rfl rfl (fun a h => opTo_make 29 5 _ 64 (.int .u8 0) iU8 rfl Try.underlying29 hiU8 hzU8 hsU8 (by rw [hbU8]; decide) rfl (h.ev rfl) (by decide)) ?_
  rintro vz9 W8 ⟨hv9, ho9, hb9⟩
  obtain ⟨gz9, hg9⟩ : ∃ x, x = V4.heap.size := ⟨_, rfl⟩
  rw [← hg9] at hv9
  subst hv9
  rw [← hg9] at ho9
  have hr9 := zrow ho9
  have he9 : V4.heap.size ≤ gz9 := Nat.le_of_eq hg9.symm
  have := Nat.le_trans b6.size he9
  have := r7.lt he9
  have b10 := b6.trans (hb9.mono b6.size)
  have r11 := r7.below hb9
  have f12 := (Dk.hold hM5 hb9 he9 hr9.2.2)
  refine fw_pu rfl ?_
  refine fw_dt ?_
  refine fw_sq ?_
  refine fw_rg rfl ?_
  refine fw_pu rfl ?_
  refine fw_ex 29 (.pointer (some ⟨gz9, 3, none⟩)) rfl rfl rfl (fun a h => (run_indexOp (h.ev rfl) (h.ev rfl) (idx8 gz9 0 64 64 3 (by decide) _))) ?_
  refine fw_st (cs := [.int .u8 7]) hr9 rfl (by kernel_rfl) ?_
  intro W13 s14 r15
  replace r15 : RowAt W13 gz9 ((bV).map B8) := (show setR ((zL 64).map B8) 3 [.int .u8 7] = (bV).map B8 by kernel_rfl) ▸ r15
  have b16 := below_chg b10 s14 (by omega) b10.size
  have r17 := r11.chg s14 (by omega)
  have f18 := (Dk.chg f12 s14 (by simp) (by omega))
  refine fw_dt ?_
  refine fw_sq ?_
  refine fw_rg rfl ?_
  iterate 2 refine fw_pu rfl ?_
  refine fw_ca Try.func46 rfl rfl rfl (dWrite (b := bV) f18 (by simp; omega) v0_all (fun X hK hB => slR (l := bV) (i := 0) (c := 64) (Kz.row hK (by simp) r15) (by decide +kernel) (by decide) (by decide) (by decide)) rfl (by decide) (e := 0) (i := 1) (by decide +kernel) (by decide +kernel) rfl) ?_
  rintro _ V19 ⟨rfl, hM20, hK20, hB20⟩
  refine ⟨_, rfl, ?_⟩
  have b21 := (b16.trans (hB20.mono (by omega)))
  have r22 := (RowAt.low r17 hB20 (by omega))
  have r23 := (Kz.row hK20 (by simp) r15)
  iterate 5 refine fw_pu rfl ?_
  refine fw_dt ?_
  refine fw_sq ?_
  refine fw_rg rfl ?_
  refine fw_pu rfl ?_
  refine fw_ca Try.func37 rfl rfl rfl (dFlush hM20 (by simp; omega) v1_all (e := 0) (i := 2) (by decide +kernel) (by decide +kernel) rfl) ?_
  rintro _ V24 ⟨rfl, hM25, hK25, hB25⟩
  refine ⟨_, rfl, ?_⟩
  have b26 := (b21.trans (hB25.mono (by omega)))
  have r27 := (RowAt.low r22 hB25 (by omega))
  have r28 := (Kz.row hK25 (by simp) r23)
  iterate 5 refine fw_pu rfl ?_
  refine fw_dt ?_
  refine fw_sq ?_
  refine fw_rg rfl ?_
  refine fw_pu rfl ?_
  refine fw_ca Try.func39 rfl rfl rfl (dComplete (m := 0) (b := []) hM25 (by simp; omega) v2_all rfl (e := 0) (i := 1) (by decide +kernel) (by decide +kernel) (by decide +kernel) rfl) ?_
  rintro _ V29 ⟨ax30, cx30, rfl, ⟨hM30, hK30, hB30⟩, ho30, hf30⟩
  refine ⟨_, rfl, ?_⟩
  have b31 := (b26.trans (hB30.mono (by omega)))
  have r32 := (RowAt.low r27 hB30 (by omega))
  have r33 := (Kz.row hK30 (by simp) r28)
  iterate 7 refine fw_pu rfl ?_
  refine fw_dt ?_
  refine fw_sq ?_
  refine fw_rg rfl ?_
  refine fw_pu rfl ?_
  refine fw_ca Try.func39 rfl rfl rfl (dComplete (m := 0) (b := []) hM30 (by simp; omega) v3_all rfl (e := 0) (i := 2) (by decide +kernel) (by decide +kernel) (by decide +kernel) rfl) ?_
  rintro _ V34 ⟨ax35, cx35, rfl, ⟨hM35, hK35, hB35⟩, ho35, hf35⟩
  refine ⟨_, rfl, ?_⟩
  have b36 := (b31.trans (hB35.mono (by omega)))
  have r37 := (RowAt.low r32 hB35 (by omega))
  have r38 := (Kz.row hK35 (by simp) r33)
  iterate 7 refine fw_pu rfl ?_
  refine fw_dt ?_
  refine fw_sq ?_
  refine fw_rg rfl ?_
  refine fw_pu rfl ?_
  refine fw_ca Try.func43 rfl rfl rfl (dCrash (P := []) (m := 128) (b := xV) hM35 (by simp; omega) v4_all rfl (fun X _ _ => slR_nil X) (by decide +kernel) rfl) ?_
  rintro _ V39 ⟨ax40, cx40, rfl, ⟨hM40, hK40, hB40⟩, ho40, hf40⟩
  refine ⟨_, rfl, ?_⟩
  have b41 := (b36.trans (hB40.mono (by omega)))
  have r42 := (RowAt.low r37 hB40 (by omega))
  have r43 := (Kz.row hK40 (by simp) r38)
  obtain ⟨gx40, rfl⟩ := own_ptr ho40 (by decide)
  have hM40x := hf40 _ rfl
  have hrx40 := own_rowD ho40
  have hgx40 := (own_caps ho40).2.2
  have := Nat.lt_of_lt_of_le r37.2.2 hgx40
  have := Nat.lt_of_lt_of_le r38.2.2 hgx40
  have := Nat.le_trans b36.size hgx40
  refine fw_pu rfl ?_
  refine fw_dt ?_
  refine fw_sq ?_
  refine fw_rg rfl ?_
  refine fw_pu rfl ?_
  refine fw_ca Try.func32 rfl rfl rfl ((num4_any 0 V39)) ?_
  rintro _ _ ⟨rfl, rfl⟩
  refine ⟨(.int .i64 0), rfl, ?_⟩
  iterate 3 refine fw_pu rfl ?_
  refine fw_ca Try.func32 rfl rfl rfl ((num4_any 0 V39)) ?_
  rintro _ _ ⟨rfl, rfl⟩
  refine ⟨(.int .i64 0), rfl, ?_⟩
  iterate 4 refine fw_pu rfl ?_
  refine fw_ca Try.func32 rfl rfl rfl ((num4_any 0 V39)) ?_
  rintro _ _ ⟨rfl, rfl⟩
  refine ⟨(.int .i64 0), rfl, ?_⟩
  iterate 4 refine fw_pu rfl ?_
  refine fw_ca Try.func32 rfl rfl rfl ((num4_any 0 V39)) ?_
  rintro _ _ ⟨rfl, rfl⟩
  refine ⟨(.int .i64 0), rfl, ?_⟩
  iterate 9 refine fw_pu rfl ?_
  refine fw_ex 80 (.pointer (some ⟨gx40, 67, none⟩)) rfl rfl rfl (fun a h => (run_indexOp (h.ev rfl) (h.ev rfl) (idx8 gx40 0 128 cx40 67 (by decide) _))) ?_
  refine fw_ex 81 (.int .u8 7) rfl rfl rfl (fun a h => (run_loadOp (h.ev rfl) (by simp [go_sem, Instr.loadAt, RowAt.cell hrx40 (j := 67) (show ((xV).map B8)[67]? = some (.int .u8 7) by kernel_rfl)]))) ?_
  refine fw_ex 82 (.bool true) rfl rfl rfl (fun a h => (run_binOp (h.ev rfl) (h.ev rfl) (gU8 _ _ _ _ _ _) (eql8 _ _ _))) ?_
  iterate 2 refine fw_pu rfl ?_
  refine fw_dt ?_
  refine fw_fg [(0, _)] ⟨rfl, trivial⟩ ?_
  refine fw_rt ?_
  refine ⟨fun a h => ?_⟩
  exact ow_ret1 rfl h.df (h.g 0 rfl) ⟨rfl, b41⟩
/-- The longest that is read. -/
abbrev far : Nat := 140737488351232
structure A4 where
  d : Int
  n : Int
  b : List UInt8
  p : List Int
def A4.row (a : A4) (vb vp : Value) : List Value := [.int .i64 a.d, .int .i64 a.n, vb, vp]
def A4.At (w : World) (b off : Nat) (a : A4) : Prop :=
  ∃ ab cb ap cp, (∀ j u, (a.row (.slice ab a.b.length cb) (.slice ap a.p.length cp))[j]? = some u → w.cell? ⟨b, off + j, none⟩ = some u) ∧ Sl w (.slice ab a.b.length cb) a.b ∧ SlR w 1 (.slice ap a.p.length cp) (a.p.map intR) ∧ a.b.length ≤ far ∧ a.p.length ≤ far
theorem sl4_form {W : World} {v : Value} {l : List UInt8} (h : Sl W v l) : ∃ ao cap, v = .slice ao l.length cap := by
  obtain ⟨ao, cap, rfl, -⟩ := h
  exact ⟨ao, cap, rfl⟩
theorem SlOf.toRI {w : World} {v : Value} {L : List Int} (h : SlOf w 1 (fun w b off q => ∀ j u, (intR q)[j]? = some u → w.cell? ⟨b, off + j, none⟩ = some u) v L) : SlR w 1 v (L.map intR) := by
  obtain ⟨ao, cap, rfl, h1, h2, h3, h4⟩ := h
  refine ⟨ao, cap, by rw [List.length_map], by rw [List.length_map]; exact h1, h2, h3, fun hne => ?_⟩
  obtain ⟨b, off, rfl, hb, hq⟩ := h4 (by rintro rfl; exact hne rfl)
  refine ⟨b, off, rfl, hb, fun i q hi j u hu => ?_⟩
  rw [List.getElem?_map] at hi
  obtain ⟨x, hx, rfl⟩ := Option.map_eq_some_iff.1 hi
  exact hq i x hx j u hu
theorem bytes_le {n b : Nat} (h : n * b ≤ reachBytes) (hb : 0 < b) : n ≤ far := by
  have h' : n * b ≤ 140737488351232 := h
  have := Nat.le_mul_of_pos_right n hb
  show n ≤ 140737488351232
  omega
theorem one_cell {w : World} {b off : Nat} {c : Value} (h : Cells w b off 1 [c]) : ∀ j u, ([c] : List Value)[j]? = some u → w.cell? ⟨b, off + j, none⟩ = some u := by
  intro j u hu
  rcases j with _ | j
  · simp at hu; subst hu; exact h.2 0 (by decide)
  · simp at hu
theorem c4I : Try.prog.cellsOf 3 = 1 := by kernel_rfl
theorem c4B : Try.prog.cellsOf 29 = 1 := by kernel_rfl
theorem c4P : Try.prog.cellsOf 55 = 1 := by kernel_rfl
theorem c4L : Try.prog.cellsOf 46 = 1 := by kernel_rfl
theorem RdZ.ints4 {w : World} {cs : List Value} (h : RdZ Try.prog w 55 cs) : ∃ (v : Value) (l : List Int), cs = [v] ∧ SlR w 1 v (l.map intR) ∧ l.length ≤ far := by
  obtain ⟨v, L, rfl, hS, hb⟩ := h.slOf (p := fun w b off q => ∀ j u, (intR q)[j]? = some u → w.cell? ⟨b, off + j, none⟩ = some u) (size := 1) Try.underlying55 (by kernel_rfl) (by decide) (by
    intro b off cs' _ hc hr
    obtain ⟨n, rfl, -⟩ := hr.rd.i64 Try.underlying3
    exact ⟨n, one_cell hc⟩)
  exact ⟨v, L, rfl, hS.toRI, bytes_le hb (by rw [show Try.prog.bytesOf 3 = 8 by kernel_rfl]; decide)⟩
theorem slR_form {w : World} {v : Value} {n : Nat} {L : List (List Value)} (h : SlR w n v L) : ∃ ao cap, v = .slice ao L.length cap := by
  obtain ⟨ao, cap, rfl, -⟩ := h
  exact ⟨ao, cap, rfl⟩
set_option maxRecDepth 100000 in
theorem acts4_of {W : World} {cs : List Value} (h : RdZ Try.prog W 46 cs) : ∃ aL L cL, cs = [.slice aL L.length cL] ∧ SlOf W 4 A4.At (.slice aL L.length cL) L ∧ L.length ≤ far := by
  obtain ⟨v', L, rfl, hS, hb⟩ := h.slOf (p := A4.At) (size := 4) Try.underlying46 (by kernel_rfl) (by decide) (by
    intro b off cs' hb hc hr
    obtain ⟨hlen, hf⟩ := hr.struct Try.underlying57
    match cs', hc.1 with
    | [c0, c1, c2, c3], _ =>
      obtain ⟨x0, h0, -⟩ := (hf 0 _ rfl).rd.i64 Try.underlying3
      obtain rfl : c0 = .int .i64 x0 := by simpa [c4I] using h0
      obtain ⟨x1, h1, -⟩ := (hf 1 _ rfl).rd.i64 Try.underlying3
      obtain rfl : c1 = .int .i64 x1 := by simpa [c4I] using h1
      obtain ⟨v2, x2, h2, hX, hxl⟩ := (hf 2 _ rfl).bytes Try.underlying29 (by kernel_rfl) (by kernel_rfl) Try.underlying5
      obtain ⟨a2, k2, rfl⟩ := sl4_form hX
      obtain rfl : c2 = .slice a2 x2.length k2 := by simpa [c4B] using h2
      obtain ⟨v3, x3, h3, hP, hpl⟩ := (show RdZ Try.prog W 55 _ from hf 3 _ rfl).ints4
      obtain ⟨a3, k3, rfl⟩ := slR_form hP
      rw [List.length_map] at h3 hP
      obtain rfl : c3 = .slice a3 x3.length k3 := by simpa [c4P] using h3
      refine ⟨⟨x0, x1, x2, x3⟩, a2, k2, a3, k3, fun j u hu => ?_, hX, hP, hxl, hpl⟩
      have hj : j < 4 := by
        rcases Nat.lt_or_ge j 4 with h | h
        · exact h
        · rw [List.getElem?_eq_none (by simpa [A4.row] using h)] at hu; cases hu
      rw [hc.2 j hj]; exact hu)
  obtain ⟨aL, cL, rfl, -⟩ := id hS
  exact ⟨aL, L, cL, rfl, hS, bytes_le hb (by rw [show Try.prog.bytesOf 57 = 64 by kernel_rfl]; decide)⟩
set_option maxRecDepth 100000 in
theorem scr4_of {W : World} {cs : List Value} (h : RdZ Try.prog W 48 cs) : ∃ aB B cB aL L cL, cs = [.slice aB (B : List UInt8).length cB, .slice aL (L : List A4).length cL] ∧ Sl W (.slice aB B.length cB) B ∧ B.length ≤ far ∧ SlOf W 4 A4.At (.slice aL L.length cL) L ∧ L.length ≤ far := by
  obtain ⟨hlen, hf⟩ := h.struct Try.underlying48
  have h2 : cs.length = 2 := hlen.trans (by kernel_rfl)
  match cs, h2 with
  | [c0, c1], _ =>
    obtain ⟨v0, B, k0, hB, hbl⟩ := (hf 0 _ rfl).bytes Try.underlying29 (by kernel_rfl) (by kernel_rfl) Try.underlying5
    obtain ⟨aB, cB, rfl⟩ := sl4_form hB
    obtain rfl : c0 = .slice aB B.length cB := by simpa [c4B] using k0
    obtain ⟨aL, L, cL, k1, hL, hll⟩ := acts4_of (show RdZ Try.prog W 46 _ from hf 1 _ rfl)
    obtain rfl : c1 = .slice aL L.length cL := by simpa [c4L] using k1
    exact ⟨aB, B, cB, aL, L, cL, rfl, hB, hbl, hL, hll⟩
/-! what was flushed is kept -/
structure KInv (d : ED) : Prop where
  all : Dall d
  ps : d.ps = []
  arm : d.arm = false
  off : d.off = false
  len : d.dy.length = 8
  cl : ∀ n, n < 8 → d.dy[n]? = some false → secD d.now n = secD d.dur n
theorem powD_id {d : ED} (h : d.arm = false) : powD d = d := by unfold powD; rw [h]; rfl
theorem sec_splice_same {l b : List UInt8} {n : Nat} (h : n * 64 + 64 ≤ l.length) (hb : b.length = 64) : secD (splice l (n * 64) b) n = b := by
  unfold secD splice
  rw [List.drop_append_of_le_length (by simp; omega), List.drop_eq_nil_of_le (by simp; omega), List.nil_append, List.take_append_of_le_length (by omega), ← hb, List.take_length]
theorem sec_at (l : List UInt8) (n j : Nat) (hj : j < 64) : (secD l n)[j]? = l[n * 64 + j]? := by
  unfold secD
  rw [List.getElem?_take, if_pos hj, List.getElem?_drop]
theorem splice_at {l b : List UInt8} {o i : Nat} (h : o + b.length ≤ l.length) : (splice l o b)[i]? = if i < o then l[i]? else if i < o + b.length then b[i - o]? else l[i]? := by
  unfold splice
  by_cases h1 : i < o
  · rw [List.getElem?_append_left (by simp; omega), List.getElem?_take, if_pos h1, if_pos h1]
  · rw [List.getElem?_append_right (by simp; omega), if_neg h1, List.length_take, Nat.min_eq_left (by omega)]
    by_cases h2 : i < o + b.length
    · rw [List.getElem?_append_left (by omega), if_pos h2]
    · rw [List.getElem?_append_right (by omega), if_neg h2, List.getElem?_drop]
      congr 1; omega
theorem sec_ext {a b : List UInt8} {n : Nat} (h : ∀ j, j < 64 → a[n * 64 + j]? = b[n * 64 + j]?) : secD a n = secD b n := by
  apply List.ext_getElem?
  intro j
  by_cases hj : j < 64
  · rw [sec_at _ _ _ hj, sec_at _ _ _ hj, h j hj]
  · unfold secD
    rw [List.getElem?_take, List.getElem?_take, if_neg hj, if_neg hj]
theorem sec_splice_other {l b : List UInt8} {n m : Nat} (h : n * 64 + 64 ≤ l.length) (hb : b.length = 64) (hne : m ≠ n) : secD (splice l (n * 64) b) m = secD l m := by
  refine sec_ext fun j hj => ?_
  rw [splice_at (by omega)]
  by_cases h1 : m * 64 + j < n * 64
  · rw [if_pos h1]
  · rw [if_neg h1, if_neg (by omega)]
/-- What a flush leaves, sector by sector. -/
theorem flushL_sec (now : List UInt8) : ∀ (l : List Nat) (p : List UInt8 × List Bool), (∀ i ∈ l, i * 64 + 64 ≤ p.1.length) → now.length = p.1.length → (flushL now l p).1.length = p.1.length ∧ ∀ m, secD (flushL now l p).1 m = if m ∈ l then secD now m else secD p.1 m
  | [], p, _, _ => ⟨rfl, fun m => by simp [flushL]⟩
  | a :: l, p, h, hn => by
    have ha := h a (List.mem_cons_self ..)
    have hs : (secD now a).length = 64 := by simp [secD]; omega
    have hl : (splice p.1 (a * 64) (secD now a)).length = p.1.length := length_splice _ _ _ (by omega)
    obtain ⟨h1, h2⟩ := flushL_sec now l (splice p.1 (a * 64) (secD now a), p.2.set a false) (fun i hi => by rw [hl]; exact h i (List.mem_cons_of_mem _ hi)) (by rw [hl]; exact hn)
    unfold flushL
    refine ⟨h1.trans hl, fun m => ?_⟩
    rw [h2 m]
    by_cases hm : m ∈ l
    · rw [if_pos hm, if_pos (List.mem_cons_of_mem _ hm)]
    · rw [if_neg hm]
      by_cases e : m = a
      · subst e
        rw [if_pos (List.mem_cons_self ..), sec_splice_same (by omega) hs]
      · rw [if_neg (by rw [List.mem_cons]; exact fun h => h.elim e hm), sec_splice_other (by omega) hs e]
theorem all_sec {a b : List UInt8} (hl : a.length = b.length) (h8 : b.length = 512) (h : ∀ m, m < 8 → secD a m = secD b m) : a = b := by
  apply List.ext_getElem?
  intro i
  by_cases hi : i < 512
  · have := congrArg (fun l => l[i % 64]?) (h (i / 64) (by omega))
    rw [sec_at _ _ _ (by omega), sec_at _ _ _ (by omega)] at this
    rwa [show i / 64 * 64 + i % 64 = i by omega] at this
  · rw [List.getElem?_eq_none (by omega), List.getElem?_eq_none (by omega)]
theorem k_write {d : ED} {n : Nat} {b : List UInt8} (h : KInv d) (hn : n < 8) (hb : b.length = 64) (hl : d.last ≤ 999000) :
    askE d 0 n 64 = 0 ∧ Dall (askD d 0 n b) ∧ compE (askD d 0 n b) 0 = 0 ∧ compB (askD d 0 n b) 0 = [] ∧ KInv (compD (askD d 0 n b) 0) ∧ (compD (askD d 0 n b) 0).now = splice d.now (n * 64) b ∧ (compD (askD d 0 n b) 0).dur = d.dur ∧ (compD (askD d 0 n b) 0).last = d.last + 1 := by
  obtain ⟨hA, hps, harm, hoff, hlen, hcl⟩ := h
  have hp := powD_id harm
  have hE : askE d 0 n 64 = 0 := by
    unfold askE mayK
    rw [hp, hoff, hps, hlen]
    simp
    omega
  have hD : askD d 0 n b = { d with last := d.last + 1, ps := [⟨d.last + 1, 0, n, b⟩] } := by
    unfold askD
    rw [hb, hE, if_pos rfl, hp, hps]
    rfl
  have hAsk : Dall (askD d 0 n b) := hA.ask 0 n b (.inl rfl) (fun h => (nomatch h)) (by omega) (by rw [hps]; decide)
  have hCE : compE (askD d 0 n b) 0 = 0 := by
    unfold compE
    rw [hD, powD_id (by exact harm)]
    simp [hoff]
  have hCR : compR (askD d 0 n b) 0 = ⟨d.last + 1, 0, n, b⟩ := by rw [hD]; rfl
  have hnow : n * 64 + 64 ≤ d.now.length := by have := hA.ok.inv.hn; omega
  have hCD : compD (askD d 0 n b) 0 = perfD { d with last := d.last + 1, ps := [] } ⟨d.last + 1, 0, n, b⟩ := by
    unfold compD
    rw [if_pos hCE, hCR, hD, powD_id (by exact harm)]
    rfl
  have hN : (compD (askD d 0 n b) 0).now = splice d.now (n * 64) b ∧ (compD (askD d 0 n b) 0).dur = d.dur ∧ (compD (askD d 0 n b) 0).last = d.last + 1 ∧ (compD (askD d 0 n b) 0).ps = [] ∧ (compD (askD d 0 n b) 0).arm = d.arm ∧ (compD (askD d 0 n b) 0).off = d.off ∧ ∀ m, m ≠ n → (compD (askD d 0 n b) 0).dy[m]? = d.dy[m]? := by
    rw [hCD]
    unfold perfD
    simp only [Int.toNat_natCast]
    rw [if_neg (by decide), if_pos trivial]
    split
    · exact ⟨rfl, rfl, rfl, rfl, rfl, rfl, fun _ _ => rfl⟩
    · exact ⟨rfl, rfl, rfl, rfl, rfl, rfl, fun m hm => List.getElem?_set_ne (Ne.symm hm)⟩
  have hdn : (compD (askD d 0 n b) 0).dy[n]? = some true := by
    rw [hCD]
    unfold perfD
    simp only [Int.toNat_natCast]
    rw [if_neg (by decide), if_pos trivial]
    split
    · rename_i h1; exact h1
    · show (d.dy.set n true)[n]? = some true
      rw [List.getElem?_set_self (by omega)]
  refine ⟨hE, hAsk, hCE, ?_, ⟨hAsk.comp 0, hN.2.2.2.1, hN.2.2.2.2.1.trans harm, hN.2.2.2.2.2.1.trans hoff, ?_, fun m hm hf => ?_⟩, hN.1, hN.2.1, hN.2.2.1⟩
  · unfold compB
    rw [if_pos hCE, hCR]
    rfl
  · rw [hCD, (perfD_len _ _).1]; exact hlen
  · by_cases e : m = n
    · subst e; rw [hdn] at hf; cases hf
    · rw [hN.1, hN.2.1, sec_splice_other hnow hb e]
      exact hcl m hm (by rw [← hN.2.2.2.2.2.2 m e]; exact hf)
theorem k_flush {d : ED} (h : KInv d) (hl : d.last ≤ 999000) :
    askE d 2 0 0 = 0 ∧ Dall (askD d 2 0 []) ∧ compE (askD d 2 0 []) 0 = 0 ∧ compB (askD d 2 0 []) 0 = [] ∧ KInv (compD (askD d 2 0 []) 0) ∧ (compD (askD d 2 0 []) 0).now = d.now ∧ (compD (askD d 2 0 []) 0).dur = d.now ∧ (compD (askD d 2 0 []) 0).last = d.last + 1 := by
  obtain ⟨hA, hps, harm, hoff, hlen, hcl⟩ := h
  have hp := powD_id harm
  have hE : askE d 2 0 0 = 0 := by
    unfold askE mayK
    rw [hp, hoff, hps]
    simp
  have hD : askD d 2 0 [] = { d with last := d.last + 1, ps := [⟨d.last + 1, 2, 0, []⟩] } := by
    unfold askD
    rw [show ([] : List UInt8).length = 0 from rfl, hE, if_pos rfl, hp, hps]
    rfl
  have hAsk : Dall (askD d 2 0 []) := hA.ask 2 0 [] (.inr (.inr rfl)) (fun _ => rfl) (by omega) (by rw [hps]; decide)
  have hCE : compE (askD d 2 0 []) 0 = 0 := by
    unfold compE
    rw [hD, powD_id (by exact harm)]
    simp [hoff]
  have hCR : compR (askD d 2 0 []) 0 = ⟨d.last + 1, 2, 0, []⟩ := by rw [hD]; rfl
  have hCD : compD (askD d 2 0 []) 0 = { d with last := d.last + 1, ps := [], dur := (flushL d.now d.wr (d.dur, d.dy)).1, dy := (flushL d.now d.wr (d.dur, d.dy)).2, wr := [] } := by
    unfold compD
    rw [if_pos hCE, hCR, hD, powD_id (by exact harm)]
    rfl
  have h1 := hA.ok.inv.hn
  have h2 := hA.ok.inv.hd
  have hfs := flushL_sec d.now d.wr (d.dur, d.dy) (fun i hi => by have := hA.ok.inv.lt i hi; show i * 64 + 64 ≤ d.dur.length; omega) (by show d.now.length = d.dur.length; omega)
  have hdur : (flushL d.now d.wr (d.dur, d.dy)).1 = d.now := by
    refine all_sec (hfs.1.trans (by show d.dur.length = _; omega)) (by omega) fun m hm => ?_
    rw [hfs.2 m]
    by_cases hw : m ∈ d.wr
    · rw [if_pos hw]
    · rw [if_neg hw]
      have hy : d.dy[m]? = some false := by
        have hml : m < d.dy.length := by omega
        rw [List.getElem?_eq_getElem hml]
        cases hb : d.dy[m] with
        | false => rfl
        | true => exact absurd ((hA.ok.inv.hw m).2 (by rw [List.getElem?_eq_getElem hml, hb])) hw
      exact (hcl m hm hy).symm
  refine ⟨hE, hAsk, hCE, ?_, ⟨hAsk.comp 0, ?_, ?_, ?_, ?_, fun m hm hf => ?_⟩, ?_, ?_, ?_⟩
  · unfold compB
    rw [if_pos hCE, hCR]
    rfl
  · rw [hCD]
  · rw [hCD]; exact harm
  · rw [hCD]; exact hoff
  · rw [hCD]; show (flushL d.now d.wr (d.dur, d.dy)).2.length = 8; rw [flushL_len]; exact hlen
  · rw [hCD]; show secD d.now m = secD (flushL d.now d.wr (d.dur, d.dy)).1 m; rw [hdur]
  · rw [hCD]
  · rw [hCD]; exact hdur
  · rw [hCD]
theorem sec_crK {d : ED} (hI : Dinv d) (P : List Int) (m : Nat) (hm : m < d.dy.length) : ∀ k, k ≤ d.dy.length → ∃ c, c ≤ 64 ∧ ∀ j, j < 64 → (crK d P k).1[m * 64 + j]? = if j < c then d.now[m * 64 + j]? else d.dur[m * 64 + j]?
  | 0, _ => ⟨0, by omega, fun j _ => rfl⟩
  | k + 1, hk => by
    obtain ⟨c, hc, h⟩ := sec_crK hI P m hm k (by omega)
    have hl := crK_len hI P k (by omega)
    have h1 := hI.hd
    have h2 := hI.hn
    unfold crK
    split
    · have hkb := keptI_bd ((crK d P k).2.headD 0)
      have hs : ((secD d.now k).take (keptI ((crK d P k).2.headD 0)).toNat).length = (keptI ((crK d P k).2.headD 0)).toNat := by
        simp only [secD, List.length_take, List.length_drop]; omega
      by_cases e : m = k
      · subst e
        by_cases hlt : c ≤ (keptI ((crK d P m).2.headD 0)).toNat
        · refine ⟨(keptI ((crK d P m).2.headD 0)).toNat, by omega, fun j hj => ?_⟩
          show (splice _ _ _)[_]? = _
          rw [splice_at (by rw [hs, hl]; omega), if_neg (by omega), hs]
          by_cases h3 : j < (keptI ((crK d P m).2.headD 0)).toNat
          · rw [if_pos (by omega), if_pos h3, List.getElem?_take, if_pos (by omega), sec_at _ _ _ (by omega)]
            congr 1; omega
          · rw [if_neg (by omega), if_neg h3, h j hj, if_neg (by omega)]
        · refine ⟨c, hc, fun j hj => ?_⟩
          show (splice _ _ _)[_]? = _
          rw [splice_at (by rw [hs, hl]; omega), if_neg (by omega), hs]
          by_cases h3 : j < (keptI ((crK d P m).2.headD 0)).toNat
          · rw [if_pos (by omega), if_pos (by omega), List.getElem?_take, if_pos (by omega), sec_at _ _ _ (by omega)]
            congr 1; omega
          · rw [if_neg (by omega), h j hj]
      · refine ⟨c, hc, fun j hj => ?_⟩
        show (splice _ _ _)[_]? = _
        rw [splice_at (by rw [hs, hl]; omega), hs, h j hj]
        by_cases h3 : m * 64 + j < k * 64
        · rw [if_pos h3]
        · rw [if_neg h3, if_neg (by omega)]
    · exact ⟨c, hc, h⟩
theorem crash_sec {d : ED} (h : KInv d) (P : List Int) : (crashD d P).length = 512 ∧ ∀ m, m < 8 → ∃ c, c ≤ 64 ∧ ∀ j, j < 64 → (crashD d P)[m * 64 + j]? = if j < c then d.now[m * 64 + j]? else d.dur[m * 64 + j]? := by
  have h1 := h.all.ok.inv.hd
  have h2 := h.len
  refine ⟨(crK_len h.all.ok.inv P d.dy.length (Nat.le_refl _)).trans (by omega), fun m hm => sec_crK h.all.ok.inv P m (by omega) d.dy.length (Nat.le_refl _)⟩
theorem k_new : KInv (newD (zL 512)) :=
  ⟨Dall.new (by decide +kernel), rfl, rfl, rfl, by decide +kernel, fun _ _ _ => rfl⟩
end Go.Proofs.Ytcglmkcefenjcaa
