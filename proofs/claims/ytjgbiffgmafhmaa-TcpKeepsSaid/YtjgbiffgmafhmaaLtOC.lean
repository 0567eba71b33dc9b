/-
  Packets: what the law of a kind wants.
-/
import Derived.Test.YtjgbiffgmafhmaaLtOB
import Derived.Test.YtjgbiffgmafhmaaLtOReadZ
import Derived.Test.YtjgbiffgmafhmaaLtOReadM
import Derived.Test.YtjgbiffgmafhmaaLtOTcC
import Derived.Test.YtjgbiffgmafhmaaLtOFwC
import Derived.Test.YtjgbiffgmafhmaaLtOTimB
import Derived.Test.YtjgbiffgmafhmaaLtOSpanG
import Derived.Test.YtjgbiffgmafhmaaLtOReT
import Derived.Test.YtjgbiffgmafhmaaLtOTcM
import Derived.Test.YtjgbiffgmafhmaaLtOTcA
import Derived.Test.YtjgbiffgmafhmaaLtOOv2
import Derived.Test.YtjgbiffgmafhmaaLtOReH
import Derived.Test.YtjgbiffgmafhmaaLtOSpanA
import Derived.Laws.StructEq
import Derived.Test.YtjgbiffgmafhmaaLtOPaC
import Derived.Test.YtjgbiffgmafhmaaLtOClone
import Derived.Test.YtjgbiffgmafhmaaLtOReK
import Derived.Test.YtjgbiffgmafhmaaLtOReL
import Derived.Test.YtjgbiffgmafhmaaLtOBytes
import Derived.Test.YtjgbiffgmafhmaaLtOReW
import Derived.Test.YtjgbiffgmafhmaaLtOReM
import Derived.Test.YtjgbiffgmafhmaaLtOTcB
import Derived.Test.YtjgbiffgmafhmaaLtOReI
import Derived.Test.YtjgbiffgmafhmaaLtOWithin
namespace Go.Proofs.Ytjgbiffgmafhmaa
open Go.RowKit Go.Lib
set_option maxRecDepth 100000 in
set_option maxHeartbeats 4000000 in
theorem wakes16_any (w : World) : Calls Try.prog 40 #[] w fun e w' => e = .returned (.bool true) ∧ Below w.heap.size w w' := by
 have hb0 := Below.refl w.heap.size w
 refine fw_en 52 [] Try.func40 rfl Try.ntmps40 rfl trivial ?_
 refine fw_sq ?_
 refine fw_rg rfl ?_
 refine fw_pu rfl ?_
 refine fw_dt ?_
 refine fw_sq ?_
 refine fw_rg rfl ?_
 refine fw_ex 9 (.agg #[.int .i64 5, .int .i64 1883, .int .i64 50, .int .i64 0, .int .i64 2, .int .i64 1000, .slice none 0 0]) rfl rfl rfl (fun a h => (run_buildOp (bp5 (h.ev rfl) (h.ev rfl) (h.ev rfl) (h.ev rfl) (h.ev rfl)) (by first | kernel_rfl | rfl))) ?_
 refine fw_ca Try.func41 rfl rfl rfl (pOpen 1 7 100 sA none 0 w mayA openA) ?_
 rintro _ V1 ⟨ao3, co3, ap3, cp3, al3, cl3, rfl, hMine, hb1⟩
 refine ⟨_, rfl, ?_⟩
 obtain ⟨hx1, hx2, -, -⟩ := mine_reads hMine (Tch.refl _ _)
 obtain ⟨g1, rfl, hg1, hcell⟩ := mine_seg (s := mkS cA 100 18 []) hMine
 have hbV1 := Below.refl V1.heap.size V1
 have b2 := hb0.trans (hb1.mono hb0.size)
 iterate 4 refine fw_pu rfl ?_
 refine fw_al (t := 62) (u := fun q => .pointer (some ⟨q, 0, none⟩)) 1 [.int .i64 0, .int .i64 0, .int .i64 0, .int .i64 0, .int .i64 0, .int .i64 0, .int .i64 0, .int .i64 0, .slice none 0 0, .int .i64 0, .slice none 0 0, .bool false, .bool false, .int .i64 0, .int .i64 0, .int .i64 0] rfl rfl rfl (fun a h => (run_allocOp (by simp [go_sem, Instr.alloc]))) ?_
 intro q3 W4 g7 s5 r6
 have := Nat.le_trans b2.size g7
 have := Nat.le_trans hbV1.size g7
 have b8 := b2.trans (s5.mono b2.size)
 have f9 := (hbV1.trans (s5.mono hbV1.size))
 refine fw_st r6 rfl rfl ?_
 intro W10 s11 r12
 have b13 := below_chg b8 s11 (by omega) b8.size
 have f14 := (below_chg f9 s11 (by omega) f9.size)
 iterate 2 refine fw_pu rfl ?_
 refine fw_dt ?_
 refine fw_sq ?_
 refine fw_rg rfl ?_
 refine fw_ld r12 rfl rfl ?_
 refine fw_ex 16 (.agg #[.int .i64 5, .int .i64 1883, .int .i64 51, .int .i64 101, .int .i64 16, .int .i64 1000, .slice none 0 0]) rfl rfl rfl (fun a h => (run_buildOp (bp6 (h.ev rfl) (h.ev rfl) (h.ev rfl) (h.ev rfl) (h.ev rfl) (h.ev rfl)) (by first | kernel_rfl | rfl))) ?_
 refine fw_ca Try.func36 rfl rfl rfl (pTake cA ao3 ap3 co3 cp3 W10 (hx1.below f14) (hx2.below f14) (by decide +kernel) (fun x hx => (nomatch hx)) sB none 0 mayB_ (Sl_nil _) takeA) ?_
 rintro _ V16 ⟨ao4, co4, ap4, cp4, al4, cl4, vt4, rfl, hMine2, hb15⟩
 refine ⟨_, rfl, ?_⟩
 have b17 := b13.trans (hb15.mono b13.size)
 have r18 := r12.below hb15
 have f19 := (f14.trans (hb15.mono f14.size))
 iterate 5 refine fw_pu rfl ?_
 refine fw_al (t := 62) (u := fun q => .pointer (some ⟨q, 0, none⟩)) 4 [.int .i64 0, .int .i64 0, .int .i64 0, .int .i64 0, .int .i64 0, .int .i64 0, .int .i64 0, .int .i64 0, .slice none 0 0, .int .i64 0, .slice none 0 0, .bool false, .bool false, .int .i64 0, .int .i64 0, .int .i64 0] rfl rfl rfl (fun a h => (run_allocOp (by simp [go_sem, Instr.alloc]))) ?_
 intro q20 W21 g24 s22 r23
 have := Nat.le_trans b17.size g24
 have := r18.lt g24
 have := Nat.le_trans f19.size g24
 have b25 := b17.trans (s22.mono b17.size)
 have f27 := (f19.trans (s22.mono f19.size))
 refine fw_st r23 rfl rfl ?_
 intro W28 s29 r30
 have b31 := below_chg b25 s29 (by omega) b25.size
 have f33 := (below_chg f27 s29 (by omega) f27.size)
 iterate 3 refine fw_pu rfl ?_
 refine fw_dt ?_
 refine fw_sq ?_
 refine fw_rg rfl ?_
 refine fw_pu rfl ?_
 refine fw_ca Try.func38 rfl rfl rfl ((num16_any 0 W28)) ?_
 rintro _ _ ⟨rfl, rfl⟩
 refine ⟨(.int .i64 0), rfl, ?_⟩
 iterate 3 refine fw_pu rfl ?_
 refine fw_ca Try.func38 rfl rfl rfl ((num16_any 0 W28)) ?_
 rintro _ _ ⟨rfl, rfl⟩
 refine ⟨(.int .i64 0), rfl, ?_⟩
 iterate 14 refine fw_pu rfl ?_
 refine fw_ld r30 rfl rfl ?_
 iterate 3 refine fw_pu rfl ?_
 refine fw_kn 45 rfl stA ?_
 refine fw_pu rfl ?_
 refine fw_ex 47 (.pointer (some ⟨g1, 0, none⟩)) rfl rfl rfl (fun a h => (run_indexOp (h.ev rfl) (h.ev rfl) (idxSegA _ _ _ (by decide) _))) ?_
 refine fw_pu rfl ?_
 refine fw_ex 49 (.int .i64 100) rfl rfl rfl (fun a h => (run_loadOp (h.ev rfl) (by simp [go_sem, Instr.loadAt, (Below.cell f33 (p := ⟨g1, 2, none⟩) hg1).trans hcell, mkS]))) ?_
 iterate 3 refine fw_pu rfl ?_
 refine fw_dt ?_
 refine fw_rt ?_
 refine ⟨fun a h => ?_⟩
 exact ow_ret1 rfl h.df (h.g 0 rfl) ⟨rfl, b31⟩

def tblT : List TE := ⟨82, true, 6, [0, 1, 2, 3, 4, 5], 0⟩ :: ⟨49, false, 1, [], 1⟩ :: ⟨52, false, 1, [], 0⟩ :: tbl
theorem tblT_ok : tblT.all (TE.okB Try.prog) = true := by kernel_rfl
instance (priority := 20000) : TOk Try.prog tblT := ⟨tblT_ok⟩

theorem c16I : Try.prog.cellsOf 3 = 1 := by kernel_rfl
theorem c16T : Try.prog.cellsOf 4 = 1 := by kernel_rfl
theorem c16B : Try.prog.cellsOf 34 = 1 := by kernel_rfl
theorem c16U : Try.prog.cellsOf 5 = 1 := by kernel_rfl
theorem b16U : Try.prog.bytesOf 5 = 1 := by kernel_rfl
theorem Sl.form {w : World} {v : Value} {l : List UInt8} (h : Sl w v l) : ∃ ao co, v = .slice ao l.length co := by
  obtain ⟨ao, co, e, -⟩ := h
  exact ⟨ao, co, e⟩
theorem row_of {W : World} {b off n : Nat} {cs : List Value} (hc : Cells W b off n cs) (hn : cs.length = n) : ∀ j u, cs[j]? = some u → W.cell? ⟨b, off + j, none⟩ = some u := fun j u hj => by
  have hj' : j < n := by rw [← hn]; exact (List.getElem?_eq_some_iff.1 hj).1
  rw [hc.2 j hj', hj]
set_option maxRecDepth 100000 in
theorem part16_of (W : World) (b off : Nat) (cs : List Value) (hc : Cells W b off 2 cs) (h : RdZ Try.prog W 58 cs) : ∃ q : EP, KPart.At W b off q ∧ q.d.length ≤ 140737488351232 := by
  obtain ⟨hlen, hf⟩ := h.struct Try.underlying58
  have h2 : cs.length = 2 := hlen.trans (by kernel_rfl)
  match cs, h2 with
  | [c0, c1], _ =>
    obtain ⟨n, kc0, -⟩ := (hf 0 _ rfl).rd.i64 Try.underlying3
    have fc0 : c0 = .int .i64 n := by simpa [c16I] using kc0
    obtain ⟨vc1, l, kc1, hsc1, hlc1⟩ := (hf 1 _ rfl).bytes Try.underlying34 c16U b16U Try.underlying5
    have fc1 : c1 = vc1 := by simpa [c16B] using kc1
    subst fc0 fc1
    exact ⟨⟨n, l⟩, ⟨_, hsc1, row_of hc rfl⟩, hlc1⟩
set_option maxRecDepth 100000 in
theorem act16_of (W : World) (b off : Nat) (cs : List Value) (hc : Cells W b off 12 cs) (h : RdZ Try.prog W 72 cs) : ∃ q : EA, EA.At W b off q := by
  obtain ⟨hlen, hf⟩ := h.struct Try.underlying72
  have h2 : cs.length = 12 := hlen.trans (by kernel_rfl)
  match cs, h2 with
  | [c0, c1, c2, c3, c4, c5, c6, c7, c8, c9, c10, c11], _ =>
    obtain ⟨d, kc0, -⟩ := (hf 0 _ rfl).rd.i64 Try.underlying3
    have fc0 : c0 = .int .i64 d := by simpa [c16I] using kc0
    obtain ⟨n, kc1, -⟩ := (hf 1 _ rfl).rd.i64 Try.underlying3
    have fc1 : c1 = .int .i64 n := by simpa [c16I] using kc1
    obtain ⟨m, kc2, -⟩ := (hf 2 _ rfl).rd.i64 Try.underlying3
    have fc2 : c2 = .int .i64 m := by simpa [c16I] using kc2
    have eS : (([c0, c1, c2, c3, c4, c5, c6, c7, c8, c9, c10, c11] : List Value).drop 3).take (Try.prog.cellsOf 70) = [c3, c4, c5, c6, c7, c8, c9] := by rw [show Try.prog.cellsOf 70 = 7 from by kernel_rfl]; rfl
    have gS : RdZ Try.prog W 70 [c3, c4, c5, c6, c7, c8, c9] := eS ▸ (hf 3 _ rfl)
    obtain ⟨-, hS⟩ := gS.struct Try.underlying70
    obtain ⟨sp, kc3, -⟩ := (hS 0 _ rfl).rd.i64 Try.underlying3
    have fc3 : c3 = .int .i64 sp := by simpa [c16I] using kc3
    obtain ⟨dp, kc4, -⟩ := (hS 1 _ rfl).rd.i64 Try.underlying3
    have fc4 : c4 = .int .i64 dp := by simpa [c16I] using kc4
    obtain ⟨sq, kc5, -⟩ := (hS 2 _ rfl).rd.i64 Try.underlying3
    have fc5 : c5 = .int .i64 sq := by simpa [c16I] using kc5
    obtain ⟨ak, kc6, -⟩ := (hS 3 _ rfl).rd.i64 Try.underlying3
    have fc6 : c6 = .int .i64 ak := by simpa [c16I] using kc6
    obtain ⟨fl, kc7, -⟩ := (hS 4 _ rfl).rd.i64 Try.underlying3
    have fc7 : c7 = .int .i64 fl := by simpa [c16I] using kc7
    obtain ⟨wn, kc8, -⟩ := (hS 5 _ rfl).rd.i64 Try.underlying3
    have fc8 : c8 = .int .i64 wn := by simpa [c16I] using kc8
    obtain ⟨vc9, l, kc9, hsc9, hlc9⟩ := (hS 6 _ rfl).bytes Try.underlying34 c16U b16U Try.underlying5
    have fc9 : c9 = vc9 := by simpa [c16B] using kc9
    obtain ⟨f, kc10⟩ := (hf 4 _ rfl).rd.bool Try.underlying4
    have fc10 : c10 = .bool f := by simpa [c16T] using kc10
    obtain ⟨vc11, bb, kc11, hsc11, hlc11⟩ := (hf 5 _ rfl).bytes Try.underlying34 c16U b16U Try.underlying5
    have fc11 : c11 = vc11 := by simpa [c16B] using kc11
    subst fc0 fc1 fc2 fc3 fc4 fc5 fc6 fc7 fc8 fc9 fc10 fc11
    obtain ⟨ad, cd, rfl⟩ := hsc9.form
    obtain ⟨ab, cb, rfl⟩ := hsc11.form
    exact ⟨⟨d, n, m, ⟨sp, dp, sq, ak, fl, wn, l⟩, f, bb⟩, ad, cd, ab, cb, hsc9, hsc11, row_of hc rfl, hlc9, hlc11⟩
theorem lay16_of {W : World} {v : Value} {L : List EP} {m : Nat} (hm : 1 ≤ m) (h : SlOf W 2 (fun w b off (q : EP) => KPart.At w b off q ∧ q.d.length ≤ 140737488351232) v L) (hr : L.length * m ≤ reachBytes) : ∃ ao cap, v = .slice ao L.length cap ∧ Lay W ao L ∧ KPart.Sl W (.slice ao L.length cap) L := by
  obtain ⟨ao, cap, rfl, h1, h2, h3, h4⟩ := h
  have hrb : reachBytes = 140737488351232 := rfl
  refine ⟨ao, cap, rfl, ⟨fun hne => ?_, fun x hx => ?_, ?_⟩, ao, cap, rfl, h1, h2, h3, fun hne => ?_⟩
  · obtain ⟨b, off, e, hb, hc⟩ := h4 hne
    exact ⟨b, off, e, hb, fun i q hq => (hc i q hq).1⟩
  · obtain ⟨b, off, e, hb, hc⟩ := h4 (fun e => by rw [e] at hx; simp at hx)
    obtain ⟨i, hi⟩ := List.getElem?_of_mem hx
    exact (hc i x hi).2
  · have := Nat.le_mul_of_pos_right L.length hm
    omega
  · obtain ⟨b, off, e, hb, hc⟩ := h4 hne
    exact ⟨b, off, e, hb, fun i q hq => (hc i q hq).1⟩
theorem laya_of {W : World} {v : Value} {L : List EA} {m : Nat} (hm : 1 ≤ m) (h : SlOf W 12 (fun w b off (q : EA) => EA.At w b off q) v L) (hr : L.length * m ≤ reachBytes) : ∃ ao cap, v = .slice ao L.length cap ∧ LayA W ao L := by
  obtain ⟨ao, cap, rfl, h1, h2, h3, h4⟩ := h
  have hrb : reachBytes = 140737488351232 := rfl
  refine ⟨ao, cap, rfl, fun hne => h4 hne, ?_⟩
  have := Nat.le_mul_of_pos_right L.length hm
  omega
set_option maxRecDepth 100000 in
theorem script16_of (W : World) (cs : List Value) (h : RdZ Try.prog W 65 cs) : ∃ (c : EC) (ao ap ac : Option Addr) (co cp cc : Nat) (C : List EA), cs = c.row (.slice ao c.out.length co) (.slice ap c.ps.length cp) ++ [.slice ac C.length cc] ∧ c.out.length ≤ 140737488351232 ∧ Lay W ap c.ps ∧ LayA W ac C ∧ Sl W (.slice ao c.out.length co) c.out ∧ KPart.Sl W (.slice ap c.ps.length cp) c.ps := by
  obtain ⟨hlen, hf⟩ := h.struct Try.underlying65
  have h3 : cs.length = 17 := hlen.trans (by kernel_rfl)
  match cs, h3 with
  | [c0, c1, c2, c3, c4, c5, c6, c7, c8, c9, c10, c11, c12, c13, c14, c15, c16], _ =>
    have eC : (([c0, c1, c2, c3, c4, c5, c6, c7, c8, c9, c10, c11, c12, c13, c14, c15, c16] : List Value).drop 0).take (Try.prog.cellsOf 62) = [c0, c1, c2, c3, c4, c5, c6, c7, c8, c9, c10, c11, c12, c13, c14, c15] := by rw [show Try.prog.cellsOf 62 = 16 from by kernel_rfl]; rfl
    have gC : RdZ Try.prog W 62 [c0, c1, c2, c3, c4, c5, c6, c7, c8, c9, c10, c11, c12, c13, c14, c15] := eC ▸ (hf 0 _ rfl)
    obtain ⟨-, hC⟩ := gC.struct Try.underlying62
    obtain ⟨link, kc0, -⟩ := (hC 0 _ rfl).rd.i64 Try.underlying3
    have fc0 : c0 = .int .i64 link := by simpa [c16I] using kc0
    obtain ⟨ip, kc1, -⟩ := (hC 1 _ rfl).rd.i64 Try.underlying3
    have fc1 : c1 = .int .i64 ip := by simpa [c16I] using kc1
    obtain ⟨pp, kc2, -⟩ := (hC 2 _ rfl).rd.i64 Try.underlying3
    have fc2 : c2 = .int .i64 pp := by simpa [c16I] using kc2
    obtain ⟨po, kc3, -⟩ := (hC 3 _ rfl).rd.i64 Try.underlying3
    have fc3 : c3 = .int .i64 po := by simpa [c16I] using kc3
    obtain ⟨st, kc4, -⟩ := (hC 4 _ rfl).rd.i64 Try.underlying3
    have fc4 : c4 = .int .i64 st := by simpa [c16I] using kc4
    obtain ⟨una, kc5, -⟩ := (hC 5 _ rfl).rd.i64 Try.underlying3
    have fc5 : c5 = .int .i64 una := by simpa [c16I] using kc5
    obtain ⟨nxt, kc6, -⟩ := (hC 6 _ rfl).rd.i64 Try.underlying3
    have fc6 : c6 = .int .i64 nxt := by simpa [c16I] using kc6
    obtain ⟨win, kc7, -⟩ := (hC 7 _ rfl).rd.i64 Try.underlying3
    have fc7 : c7 = .int .i64 win := by simpa [c16I] using kc7
    obtain ⟨vc8, out, kc8, hsc8, hlc8⟩ := (hC 8 _ rfl).bytes Try.underlying34 c16U b16U Try.underlying5
    have fc8 : c8 = vc8 := by simpa [c16B] using kc8
    have eB : (([c0, c1, c2, c3, c4, c5, c6, c7, c8, c9, c10, c11, c12, c13, c14, c15] : List Value).drop 9).take (Try.prog.cellsOf 24) = [c9, c10] := by rw [show Try.prog.cellsOf 24 = 2 from by kernel_rfl]; rfl
    have gB : RdZ Try.prog W 24 [c9, c10] := eB ▸ (hC 9 _ rfl)
    obtain ⟨-, hB⟩ := gB.struct Try.underlying24
    obtain ⟨rn, kc9, -⟩ := (hB 0 _ rfl).rd.i64 Try.underlying3
    have fc9 : c9 = .int .i64 rn := by simpa [c16I] using kc9
    obtain ⟨v10, ps, k10, hS10, hr10⟩ := (hB 1 _ rfl).slOf (p := fun w b off (q : EP) => KPart.At w b off q ∧ q.d.length ≤ 140737488351232) Try.underlying22 (show Try.prog.cellsOf 58 = 2 from by kernel_rfl) (by decide) (fun b off cs' _ hc hr => part16_of W b off cs' hc hr)
    have fc10 : c10 = v10 := by simpa [show Try.prog.cellsOf 22 = 1 from by kernel_rfl] using k10
    obtain ⟨cl, kc11⟩ := (hC 10 _ rfl).rd.bool Try.underlying4
    have fc11 : c11 = .bool cl := by simpa [c16T] using kc11
    have eM : (([c0, c1, c2, c3, c4, c5, c6, c7, c8, c9, c10, c11, c12, c13, c14, c15] : List Value).drop 12).take (Try.prog.cellsOf 60) = [c12, c13, c14, c15] := by rw [show Try.prog.cellsOf 60 = 4 from by kernel_rfl]; rfl
    have gM : RdZ Try.prog W 60 [c12, c13, c14, c15] := eM ▸ (hC 11 _ rfl)
    obtain ⟨-, hM⟩ := gM.struct Try.underlying60
    obtain ⟨on, kc12⟩ := (hM 0 _ rfl).rd.bool Try.underlying4
    have fc12 : c12 = .bool on := by simpa [c16T] using kc12
    obtain ⟨left, kc13, -⟩ := (hM 1 _ rfl).rd.i64 Try.underlying3
    have fc13 : c13 = .int .i64 left := by simpa [c16I] using kc13
    obtain ⟨wait, kc14, -⟩ := (hM 2 _ rfl).rd.i64 Try.underlying3
    have fc14 : c14 = .int .i64 wait := by simpa [c16I] using kc14
    obtain ⟨tries, kc15, -⟩ := (hM 3 _ rfl).rd.i64 Try.underlying3
    have fc15 : c15 = .int .i64 tries := by simpa [c16I] using kc15
    obtain ⟨v16, C, k16, hS16, hr16⟩ := (hf 1 _ rfl).slOf (p := fun w b off (q : EA) => EA.At w b off q) Try.underlying63 (show Try.prog.cellsOf 72 = 12 from by kernel_rfl) (by decide) (fun b off cs' _ hc hr => act16_of W b off cs' hc hr)
    have fc16 : c16 = v16 := by simpa [show Try.prog.cellsOf 63 = 1 from by kernel_rfl] using k16
    subst fc0 fc1 fc2 fc3 fc4 fc5 fc6 fc7 fc8 fc9 fc10 fc11 fc12 fc13 fc14 fc15 fc16
    obtain ⟨ao, co, rfl⟩ := hsc8.form
    obtain ⟨ap, cp, rfl, l1, l2⟩ := lay16_of (by rw [show Try.prog.bytesOf 58 = 32 from by kernel_rfl]; decide) hS10 hr10
    obtain ⟨ac, cc, rfl, l3⟩ := laya_of (by rw [show Try.prog.bytesOf 72 = 128 from by kernel_rfl]; decide) hS16 hr16
    exact ⟨⟨link, ip, pp, po, st, una, nxt, win, out, rn, ps, cl, ⟨on, left, wait, tries⟩⟩, ao, ap, ac, co, cp, cc, C, rfl, hlc8, l1, l3, hsc8, l2⟩
end Go.Proofs.Ytjgbiffgmafhmaa
