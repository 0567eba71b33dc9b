/-
  Packets: what the law of a kind wants.
-/
import Derived.Test.YtjgbiffgmafhmaaLtOTcC
import Derived.Test.YtjgbiffgmafhmaaLtOFwC
import Derived.Test.YtjgbiffgmafhmaaLtOTimB
import Derived.Test.YtjgbiffgmafhmaaLtOSpanG
import Derived.Test.YtjgbiffgmafhmaaLtOReT
import Derived.Test.YtjgbiffgmafhmaaLtOTcM
import Derived.Test.YtjgbiffgmafhmaaLtOTcA
import Derived.Test.YtjgbiffgmafhmaaLtOOv2
import Derived.Test.YtjgbiffgmafhmaaLtOReH
import Derived.Test.YtjgbiffgmafhmaaLtOSpanA
import Derived.Laws.StructEq
import Derived.Test.YtjgbiffgmafhmaaLtOPaC
import Derived.Test.YtjgbiffgmafhmaaLtOClone
import Derived.Test.YtjgbiffgmafhmaaLtOReK
import Derived.Test.YtjgbiffgmafhmaaLtOReL
import Derived.Test.YtjgbiffgmafhmaaLtOBytes
import Derived.Test.YtjgbiffgmafhmaaLtOReW
import Derived.Test.YtjgbiffgmafhmaaLtOReM
import Derived.Test.YtjgbiffgmafhmaaLtOTcB
import Derived.Test.YtjgbiffgmafhmaaLtOReI
import Derived.Test.YtjgbiffgmafhmaaLtOWithin
import Derived.Test.YtjgbiffgmafhmaaLtOReadZ
import Derived.Test.YtjgbiffgmafhmaaLtOReadM
namespace Go.Proofs.Ytjgbiffgmafhmaa
open Go.RowKit Go.Lib
theorem Sl_nil (W : World) : Sl W (.slice none 0 0) [] := ⟨none, 0, rfl, Nat.le_refl _, Nat.zero_le _, fun _ => rfl, fun h => (h rfl).elim⟩
theorem infoSeg : (Try.prog.info? 70).map (fun i => (i.zero, i.size, i.bytes)) = some (some (.agg #[.int .i64 0, .int .i64 0, .int .i64 0, .int .i64 0, .int .i64 0, .int .i64 0, .slice none 0 0]), 7, 72) := by kernel_rfl
section
variable {ρ : Operand → Value} {d : Option Tmp} {ty : TypeId} {pos : String} {af : Array Edge} {g : Option (Nat × Bool)}
theorem bsSeg {x : Operand} (s : ES) {ad : Option Addr} {n cd : Nat} (w : World) (hx : ρ x = .agg (ES.row s (.slice ad n cd)).toArray) : (execOp ρ ⟨d, .buildSlice 73 1 #[(0, x)], ty, pos, af, g⟩).run Try.prog w = .ok (.value (.slice (some ⟨w.heap.size, 0, none⟩) 1 1)) (w.alloc (.cells (ES.row s (.slice ad n cd)).toArray 70)) := by
  simp [execOp, hx, go_sem, Instr.buildSlice, ES.row]
end
theorem opTo_seg {o : Oper} {a : Act} {w : World} (s x : Operand) (ho : o.op = .call { callee := .builtin .append, args := #[s, x], argTypes := #[73, 73] }) {base n q : Nat} {v u : Value} {e : ES} {xs : List Value} (hs : a.eval s = v) (hown : w.ownsRow base 70 KSeg.n v n xs) (hx : a.eval x = .slice (some ⟨q, 0, none⟩) 1 1) (hr : RowAt w q (ES.row e u)) (h1 : u.oneCell' = true) (hn : n ≤ 100000) (hbase : base ≤ w.heap.size) :
    opTo Try.prog o a w fun v' w' => Grew w w' v v' ∧ w'.ownsRow base 70 KSeg.n v' (n + 1) (xs ++ ES.row e u) := by
  obtain ⟨i0, hi, hz0, hz1, hz2⟩ := info_parts infoSeg
  exact opTo_app s x 73 70 ho base i0 _ KSeg.n 72 Try.underlying73 hi hz0 hz1 hz2 rfl (by decide) v n xs hs hown ⟨q, 0, none⟩ 1 1 (ES.row e u) hx rfl (fun j u' hj => by
    have e' : ((⟨q, 0, none⟩ : Addr).add j) = ⟨q, j, none⟩ := by unfold Addr.add; split <;> simp_all
    rw [e']; exact hr.1 j u' hj) (fun u' hu => KSeg.one e u h1 u' hu) (by unfold maxLen; omega) (by omega) hbase
theorem abort_eq {B q : Nat} {H : List Nat} {rf : Bool} {c : EC} {l : List ES} {T : Td} {W : World} {b : Bool} (h : (c.st == 0) = b) (hM : Mch B H q rf (shutC c) (if b then l else l ++ [mkS c c.nxt 20 []]) T W) : Mch B H q rf (abortS c l).1 (abortS c l).2 T W := by
  unfold abortS
  cases b with
  | true => rw [if_pos (by simpa using h)]; exact hM
  | false => rw [if_neg (by simpa using h)]; exact hM
set_option maxRecDepth 100000 in
set_option maxHeartbeats 4000000 in
theorem sent_any (q : Nat) (c : EC) (vo vp vl : Value) (w : World) (hr : RowAt w q (c.row vo vp ++ [vl])) :
    Calls Try.prog 82 #[.pointer (some ⟨q, 0, none⟩)] w fun e w' => e = .returned (.int .i64 (sentv c)) ∧ Below w.heap.size w w' := by
 have hb0 := Below.refl w.heap.size w
 refine fw_en 14 [(0, .pointer (some ⟨q, 0, none⟩))] Try.func82 rfl Try.ntmps82 rfl ⟨rfl, trivial⟩ ?_
 refine fw_sq ?_
 refine fw_rg rfl ?_
 refine fw_pu rfl ?_
 refine fw_dt ?_
 refine fw_sq ?_
 refine fw_hr (fun X => Below w.heap.size w X ∧ RowAt X q [.int .i64 c.link, .int .i64 c.ip, .int .i64 c.pp, .int .i64 c.po, .int .i64 c.st, .int .i64 c.una, .int .i64 c.nxt, .int .i64 c.win, vo, .int .i64 c.rn, vp, .bool c.cl, .bool c.tm.on, .int .i64 c.tm.left, .int .i64 c.tm.wait, .int .i64 c.tm.tries, vl]) (by kernel_rfl) 12 rfl ?_
 intro W1 s2
 have b3 := hb0.trans (s2.mono hb0.size)
 have r4 := hr.below s2
 refine ⟨⟨b3, r4⟩, ?_⟩
 refine fw_tq 0 rfl rfl ?_
 refine fw_tq 1 rfl rfl ?_
 refine fw_tq 2 rfl rfl ?_
 refine fw_tq 3 rfl rfl ?_
 refine fw_tl 4 (fun _ h => h.2) rfl rfl rfl (by kernel_rfl) (fun _ _ _ _ _ h => h) ?_
 refine fw_tq 5 rfl rfl ?_
 refine fw_tq 6 rfl rfl ?_
 refine fw_tq 7 rfl rfl ?_
 refine fw_tq 8 rfl rfl ?_
 refine fw_tl 9 (fun _ h => h.2) rfl rfl rfl (by kernel_rfl) (fun _ _ _ _ _ h => h) ?_
 refine fw_o1 10 (by kernel_rfl) ?_
 refine fw_ov (fun v X => v = (.int .i64 (sentv c)) ∧ W1 = X) rfl Try.func49 rfl rfl rfl (((spanDiff_any c.nxt c.una W1)).mono fun e X h => ⟨_, h.1, rfl, h.2⟩) ?_
 rintro _ _ ⟨rfl, rfl⟩
 refine ⟨⟨b3, r4⟩, ?_⟩
 refine fw_tq 11 rfl rfl ?_
 refine fw_ht (by kernel_rfl) ?_
 refine fw_rt ?_
 refine ⟨fun a h => ?_⟩
 exact ow_ret1 rfl h.df (h.g 2 rfl) ⟨rfl, b3⟩
set_option maxRecDepth 100000 in
set_option maxHeartbeats 4000000 in
theorem cstart_any {B q : Nat} {H : List Nat} {c : EC} {l : List ES} {T : Td} {w : World} {n : Int} (hM : Mch B H q false c l T w) (h0 : 1 ≤ n) (h1 : n ≤ 48) :
    Does 70 #[.pointer (some ⟨q, 0, none⟩), .int .i64 n] B H q false (.tuple #[]) { c with tm := tmS n } l T w := by
 obtain ⟨ao, co, ap, PL, cp, al, SL, cl, hr, hps, hsl, hmo⟩ := hM.opn
 have hBw : B ≤ w.heap.size := hmo.facts.2.1
 have hBq : B ≤ q := hmo.facts.1
 have hqw : q < w.heap.size := hmo.facts.2.2.1
 have hqH : q ∉ H := hmo.facts.2.2.2.1
 have HHlt := Lib.hid hmo.facts.2.2.2.2.1
 have hkp := Kp.refl H w
 have hb0 := Below.refl B w
 replace hr : RowAt w q [.int .i64 c.link, .int .i64 c.ip, .int .i64 c.pp, .int .i64 c.po, .int .i64 c.st, .int .i64 c.una, .int .i64 c.nxt, .int .i64 c.win, .slice ao c.out.length co, .int .i64 c.rn, .slice ap PL.length cp, .bool c.cl, .bool c.tm.on, .int .i64 c.tm.left, .int .i64 c.tm.wait, .int .i64 c.tm.tries, .slice al SL.length cl] := hr
 unfold Does
 refine fw_en 13 [(0, .pointer (some ⟨q, 0, none⟩)), (1, .int .i64 n)] Try.func70 rfl Try.ntmps70 rfl ⟨rfl, rfl, trivial⟩ ?_
 refine fw_rg rfl ?_
 iterate 2 refine fw_pu rfl ?_
 refine fw_ca Try.func94 rfl rfl rfl (start_any n w h0 h1) ?_
 rintro _ V2 ⟨rfl, hb1⟩
 refine ⟨_, rfl, ?_⟩
 have b3 := hb0.trans (hb1.mono (Nat.le_trans hBw hb0.size))
 have r4 := hr.below hb1
 have f5 := (MO.below hmo hb1)
 have f6 := (Kp.trans hkp (Kp.of_below hb1))
 iterate 6 refine fw_pu rfl ?_
 refine fw_st r4 rfl rfl ?_
 intro W7 s8 r9
 have b10 := below_chg b3 s8 (by omega) (Nat.le_trans hBw b3.size)
 have f11 := (MO.chg f5 s8 (.inl rfl))
 have f12 := (Kp.chg f6 s8 hqH)
 refine fw_dn ?_
 refine ⟨fun a h => ?_⟩
 exact bodyPost_end (v := .tuple #[]) (by simp [results, Try.results70]) h.df ⟨rfl, (Mch.mk (rf := false) (c := { c with tm := tmS n }) (T := T) r9 hps hsl f11), f12, b10⟩
set_option maxRecDepth 100000 in
set_option maxHeartbeats 4000000 in
theorem shut_any {B q : Nat} {H : List Nat} {c : EC} {l : List ES} {T : Td} {w : World} (hM : Mch B H q false c l T w) :
    Does 84 #[.pointer (some ⟨q, 0, none⟩)] B H q false (.tuple #[]) (shutC c) l T w := by
 obtain ⟨ao, co, ap, PL, cp, al, SL, cl, hr, hps, hsl, hmo⟩ := hM.opn
 have hBw : B ≤ w.heap.size := hmo.facts.2.1
 have hBq : B ≤ q := hmo.facts.1
 have hqw : q < w.heap.size := hmo.facts.2.2.1
 have hqH : q ∉ H := hmo.facts.2.2.2.1
 have HHlt := Lib.hid hmo.facts.2.2.2.2.1
 have hkp := Kp.refl H w
 have hb0 := Below.refl B w
 replace hr : RowAt w q [.int .i64 c.link, .int .i64 c.ip, .int .i64 c.pp, .int .i64 c.po, .int .i64 c.st, .int .i64 c.una, .int .i64 c.nxt, .int .i64 c.win, .slice ao c.out.length co, .int .i64 c.rn, .slice ap PL.length cp, .bool c.cl, .bool c.tm.on, .int .i64 c.tm.left, .int .i64 c.tm.wait, .int .i64 c.tm.tries, .slice al SL.length cl] := hr
 unfold Does
 refine fw_en 20 [(0, .pointer (some ⟨q, 0, none⟩))] Try.func84 rfl Try.ntmps84 rfl ⟨rfl, trivial⟩ ?_
 refine fw_rg rfl ?_
 iterate 4 refine fw_pu rfl ?_
 refine fw_ex 6 (.agg #[.bool false, .int .i64 0, .int .i64 0, .int .i64 0]) rfl rfl rfl (fun a h => (run_buildOp (vs := #[]) (by simp) (by kernel_rfl))) ?_
 iterate 3 refine fw_pu rfl ?_
 refine fw_st hr rfl rfl ?_
 intro W1 s2 r3
 have b4 := below_chg hb0 s2 (by omega) (Nat.le_trans hBw hb0.size)
 have f5 := (MO.chg hmo s2 (.inl rfl))
 have f6 := (Kp.chg hkp s2 hqH)
 iterate 3 refine fw_pu rfl ?_
 refine fw_st r3 rfl rfl ?_
 intro W7 s8 r9
 have b10 := below_chg b4 s8 (by omega) (Nat.le_trans hBw b4.size)
 have f11 := (MO.chg f5 s8 (.inl rfl))
 have f12 := (Kp.chg f6 s8 hqH)
 iterate 4 refine fw_pu rfl ?_
 refine fw_st r9 rfl rfl ?_
 intro W13 s14 r15
 have b16 := below_chg b10 s14 (by omega) (Nat.le_trans hBw b10.size)
 have f17 := (MO.chg f11 s14 (.inl rfl))
 have f18 := (Kp.chg f12 s14 hqH)
 iterate 3 refine fw_pu rfl ?_
 refine fw_st r15 rfl rfl ?_
 intro W19 s20 r21
 have b22 := below_chg b16 s20 (by omega) (Nat.le_trans hBw b16.size)
 have f23 := (MO.chg f17 s20 (.inl rfl))
 have f24 := (Kp.chg f18 s20 hqH)
 refine fw_dn ?_
 refine ⟨fun a h => ?_⟩
 exact bodyPost_end (v := .tuple #[]) (by simp [results, Try.results84]) h.df ⟨rfl, (Mch.mk (rf := false) (c := shutC c) (T := T) (ao := none) (co := 0) (ap := none) (cp := 0) (PL := []) r21 rfl hsl (MO.noParts (MO.noOut f23))), f24, b22⟩
set_option maxRecDepth 100000 in
set_option maxHeartbeats 4000000 in
theorem send_any {B q : Nat} {H : List Nat} {c : EC} {l : List ES} {T : Td} {w : World} {sq fl : Int} {vd : Value} {D : List UInt8} (hM : Mch B H q false c l T w) (hD : Sl w vd D) (hDl : D.length ≤ 1000000) (hSl : l.length ≤ 100000) :
    Does 71 #[.pointer (some ⟨q, 0, none⟩), .int .i64 sq, .int .i64 fl, vd] B H q false (.tuple #[]) c (l ++ [mkS c sq fl D]) T w := by
 obtain ⟨ao, co, ap, PL, cp, al, SL, cl, hr, hps, hsl, hmo⟩ := hM.opn
 have hBw : B ≤ w.heap.size := hmo.facts.2.1
 have hBq : B ≤ q := hmo.facts.1
 have hqw : q < w.heap.size := hmo.facts.2.2.1
 have hqH : q ∉ H := hmo.facts.2.2.2.1
 have HHlt := Lib.hid hmo.facts.2.2.2.2.1
 have hkp := Kp.refl H w
 have hb0 := Below.refl B w
 replace hr : RowAt w q [.int .i64 c.link, .int .i64 c.ip, .int .i64 c.pp, .int .i64 c.po, .int .i64 c.st, .int .i64 c.una, .int .i64 c.nxt, .int .i64 c.win, .slice ao c.out.length co, .int .i64 c.rn, .slice ap PL.length cp, .bool c.cl, .bool c.tm.on, .int .i64 c.tm.left, .int .i64 c.tm.wait, .int .i64 c.tm.tries, .slice al SL.length cl] := hr
 have hSl : SL.length ≤ 100000 := by rw [← hsl, List.length_map] at hSl; exact hSl
 have hbw := Below.refl w.heap.size w
 have hvd1 : vd.oneCell' = true := by obtain ⟨_, _, rfl, -⟩ := hD; rfl
 unfold Does
 refine fw_en 38 [(0, .pointer (some ⟨q, 0, none⟩)), (1, .int .i64 sq), (2, .int .i64 fl), (3, vd)] Try.func71 rfl Try.ntmps71 rfl ⟨rfl, rfl, rfl, rfl, trivial⟩ ?_
 have hqz1 := RowBut.of (k := 16) hr rfl
 refine fw_hr (fun X => Below B w X ∧ RowBut X q [.int .i64 c.link, .int .i64 c.ip, .int .i64 c.pp, .int .i64 c.po, .int .i64 c.st, .int .i64 c.una, .int .i64 c.nxt, .int .i64 c.win, .slice ao c.out.length co, .int .i64 c.rn, .slice ap PL.length cp, .bool c.cl, .bool c.tm.on, .int .i64 c.tm.left, .int .i64 c.tm.wait, .int .i64 c.tm.tries, .slice al SL.length cl] 16) (by kernel_rfl) 31 rfl ?_
 intro W2 s3
 have b4 := hb0.trans (s3.mono (Nat.le_trans hBw hb0.size))
 have r5 := hr.below s3
 have f6 := (RowBut.below hqz1 s3)
 have f7 := (MO.below hmo s3)
 have f8 := (Kp.trans hkp (Kp.of_below s3))
 have f9 := (hbw.trans (s3.mono hbw.size))
 refine ⟨⟨b4, f6⟩, ?_⟩
 refine fw_tq 0 rfl rfl ?_
 refine fw_tq 1 rfl rfl ?_
 refine fw_tq 2 rfl rfl ?_
 refine fw_tq 3 rfl rfl ?_
 refine fw_tq 5 rfl rfl ?_
 refine fw_tq 6 rfl rfl ?_
 refine fw_tq 7 rfl rfl ?_
 refine fw_tq 8 rfl rfl ?_
 refine fw_lb 9 (fun _ h => h.2) rfl rfl rfl rfl (by kernel_rfl) (fun _ _ _ _ _ h => h) ?_
 refine fw_tq 10 rfl rfl ?_
 refine fw_tq 11 rfl rfl ?_
 refine fw_tq 12 rfl rfl ?_
 refine fw_tq 13 rfl rfl ?_
 refine fw_lb 14 (fun _ h => h.2) rfl rfl rfl rfl (by kernel_rfl) (fun _ _ _ _ _ h => h) ?_
 refine fw_tq 15 rfl rfl ?_
 refine fw_tq 16 rfl rfl ?_
 refine fw_tq 17 rfl rfl ?_
 refine fw_tq 18 rfl rfl ?_
 refine fw_tq 19 rfl rfl ?_
 refine fw_tq 20 rfl rfl ?_
 refine fw_lb 21 (fun _ h => h.2) rfl rfl rfl rfl (by kernel_rfl) (fun _ _ _ _ _ h => h) ?_
 refine fw_tq 22 rfl rfl ?_
 refine fw_tq 23 rfl rfl ?_
 refine fw_o2 4 24 (by kernel_rfl) ?_ ?_
 ·skip
  refine fw_ol rfl r5 rfl rfl ?_
  refine fw_o1 24 (by kernel_rfl) ?_
  have hmoW := f7
  have hWB : B ≤ W2.heap.size := Nat.le_trans hBw b4.size
  refine fw_ov (fun v X => ∃ a2 c2, v = .slice a2 D.length c2 ∧ Below W2.heap.size W2 X ∧ X.ownsRow W2.heap.size 5 1 (.slice a2 D.length c2) D.length (D.map B8)) rfl Try.func76 rfl rfl rfl ((clone_any vd D W2 hDl (hD.below f9)).mono fun e X ⟨v, he, h1, h2⟩ => by obtain ⟨a2, c2, rfl⟩ := own_slice h2; exact ⟨_, he, a2, c2, rfl, h1, h2⟩) ?_
  rintro _ V11 ⟨a2, c2, rfl, hb10, hd⟩
  have hb1 := hb10
  have b12 := b4.trans (hb10.mono (Nat.le_trans hBw b4.size))
  have r13 := r5.below hb10
  have f14 := (RowBut.below f6 hb10)
  have f15 := (MO.below f7 hb10)
  have f16 := (Kp.trans f8 (Kp.of_below hb10))
  refine ⟨⟨b12, f14⟩, ?_⟩
  refine fw_tx 25 33 (.agg #[.int .i64 c.po, .int .i64 c.pp, .int .i64 sq, .int .i64 c.rn, .int .i64 fl, .int .i64 2048, .slice a2 D.length c2]) rfl rfl rfl rfl (fun a h W hW => by obtain ⟨b12, f14⟩ := hW; exact (run_buildOp (bp7 (h.ev rfl) (h.ev rfl) (h.ev rfl) (h.ev rfl) (h.ev rfl) (h.ev rfl) (h.ev rfl)) (by first | kernel_rfl | rfl))) (by kernel_rfl) (fun _ _ _ _ _ h => h) ?_
  refine fw_o1 26 (by kernel_rfl) ?_
  refine fw_oa rfl (t := 70) (u := fun q => .slice (some ⟨q, 0, none⟩) 1 1) 34 (ES.row (mkS c sq fl D) (.slice a2 D.length c2)) rfl rfl rfl (fun a h => (bsSeg (mkS c sq fl D) _ (h.ev rfl))) ?_
  intro q17 W18 g21 s19 r20
  have := Nat.le_trans (Nat.le_trans hBw b12.size) g21
  have := r13.lt g21
  have hnH_q17 : q17 ∉ H := fun hk => by have h0 := HHlt.out q17 hk; have h1 := f16.size; omega
  have := Nat.le_trans hb1.size g21
  have b22 := b12.trans (s19.mono (Nat.le_trans hBw b12.size))
  have r23 := r13.below s19
  have f24 := (RowBut.below f14 s19)
  have f25 := (MO.hold f15 s19 g21 r20.2.2)
  have f26 := (Kp.trans f16 (Kp.of_below s19))
  have f27 := (below_own hd s19)
  have f28 := (hb1.trans (s19.mono hb1.size))
  refine ⟨⟨b22, f24⟩, ?_⟩
  refine fw_o1 27 (by kernel_rfl) ?_
  have hmo2 := f25
  obtain ⟨col, hcol⟩ := id hmo2
  refine fw_ot rfl 35 rfl rfl rfl (fun a h => (opTo_seg _ _ rfl (h.ev rfl) hcol.s.row (h.ev rfl) r20 rfl hSl (Nat.le_trans hBw b22.size))) ?_
  rintro vl2 V29 ⟨hgr, hog⟩
  obtain ⟨al2, cl2, rfl⟩ := own_slice hog
  have hSLB : ∀ k, (.slice al SL.length cl : Value).ownBlock = some k → B ≤ k ∧ k ≠ q ∧ k ∉ H := fun k hk => ⟨(blk_lt hcol.s.row hk).1, fun e => by have h0 := hcol.sc k (.inl hk); have h1 := hcol.hq; rw [e] at h0; omega, fun e => by have h0 := hcol.sc k (.inl hk); have h1 := (hcol.hH k (by simp [e])).2; omega⟩
  have hbN := (b22.trans (grew_low hgr (Nat.le_trans hBw b22.size) (fun k hk => (hSLB k hk).1)))
  have hkN : Kp H w V29 := Kp.trans f26 ⟨hgr.1.size, fun k hk hl => hgr.1.block k hl (fun e => (hSLB k e.symm).2.2 hk)⟩
  have hmoN := MO.send (MO.subH hmoW (fun k hk => hk)) f28 f27 hog hgr hWB
  have rN30 := (rowAt_keep r23 hgr.1 (fun e => (hSLB _ e.symm).2.1 rfl))
  have hqN : RowBut V29 q [.int .i64 c.link, .int .i64 c.ip, .int .i64 c.pp, .int .i64 c.po, .int .i64 c.st, .int .i64 c.una, .int .i64 c.nxt, .int .i64 c.win, .slice ao c.out.length co, .int .i64 c.rn, .slice ap PL.length cp, .bool c.cl, .bool c.tm.on, .int .i64 c.tm.left, .int .i64 c.tm.wait, .int .i64 c.tm.tries, .slice al SL.length cl] 16 := ⟨_, rN30⟩
  refine ⟨⟨hbN, hqN⟩, ?_⟩
  refine fw_tq 28 rfl rfl ?_
  refine fw_tq 29 rfl rfl ?_
  refine fw_o1 30 (by kernel_rfl) ?_
  refine fw_os rfl rN30 rfl rfl ?_
  intro W31 s32 r33
  have b34 := below_chg hbN s32 (by omega) (Nat.le_trans hBw hbN.size)
  have f35 := (RowBut.set r33 rfl)
  have f36 := (MO.chg hmoN s32 (.inl rfl))
  have f37 := (Kp.chg hkN s32 hqH)
  refine ⟨⟨b34, f35⟩, ?_⟩
  refine fw_hz (by kernel_rfl) ?_
  refine ⟨fun a h => ?_⟩
  exact bodyPost_end (v := .tuple #[]) (by simp [results, Try.results71]) h.df ⟨rfl, (Mch.mk (rf := false) (c := c) (T := T) (al := al2) (cl := cl2) (SL := SL ++ [(mkS c sq fl D, (.slice a2 D.length c2 : Value))]) (by rw [List.length_append, List.length_singleton]; exact r33) hps (by rw [List.map_append, hsl]; rfl) (by rw [List.length_append, List.length_singleton]; exact f36)), f37, b34⟩
 have hmoW := f7
 have hWB : B ≤ W2.heap.size := Nat.le_trans hBw b4.size
 refine fw_ov (fun v X => ∃ a2 c2, v = .slice a2 D.length c2 ∧ Below W2.heap.size W2 X ∧ X.ownsRow W2.heap.size 5 1 (.slice a2 D.length c2) D.length (D.map B8)) rfl Try.func76 rfl rfl rfl ((clone_any vd D W2 hDl (hD.below f9)).mono fun e X ⟨v, he, h1, h2⟩ => by obtain ⟨a2, c2, rfl⟩ := own_slice h2; exact ⟨_, he, a2, c2, rfl, h1, h2⟩) ?_
 rintro _ V39 ⟨a2, c2, rfl, hb38, hd⟩
 have hb1 := hb38
 have b40 := b4.trans (hb38.mono (Nat.le_trans hBw b4.size))
 have r41 := r5.below hb38
 have f42 := (RowBut.below f6 hb38)
 have f43 := (MO.below f7 hb38)
 have f44 := (Kp.trans f8 (Kp.of_below hb38))
 refine ⟨⟨b40, f42⟩, ?_⟩
 refine fw_tx 25 33 (.agg #[.int .i64 c.po, .int .i64 c.pp, .int .i64 sq, .int .i64 c.rn, .int .i64 fl, .int .i64 2048, .slice a2 D.length c2]) rfl rfl rfl rfl (fun a h W hW => by obtain ⟨b40, f42⟩ := hW; exact (run_buildOp (bp7 (h.ev rfl) (h.ev rfl) (h.ev rfl) (h.ev rfl) (h.ev rfl) (h.ev rfl) (h.ev rfl)) (by first | kernel_rfl | rfl))) (by kernel_rfl) (fun _ _ _ _ _ h => h) ?_
 refine fw_o2 4 26 (by kernel_rfl) ?_ ?_
 ·skip
  refine fw_ol rfl r41 rfl rfl ?_
  refine fw_o1 26 (by kernel_rfl) ?_
  refine fw_oa rfl (t := 70) (u := fun q => .slice (some ⟨q, 0, none⟩) 1 1) 34 (ES.row (mkS c sq fl D) (.slice a2 D.length c2)) rfl rfl rfl (fun a h => (bsSeg (mkS c sq fl D) _ (h.ev rfl))) ?_
  intro q45 W46 g49 s47 r48
  have := Nat.le_trans (Nat.le_trans hBw b40.size) g49
  have := r41.lt g49
  have hnH_q45 : q45 ∉ H := fun hk => by have h0 := HHlt.out q45 hk; have h1 := f44.size; omega
  have := Nat.le_trans hb1.size g49
  have b50 := b40.trans (s47.mono (Nat.le_trans hBw b40.size))
  have r51 := r41.below s47
  have f52 := (RowBut.below f42 s47)
  have f53 := (MO.hold f43 s47 g49 r48.2.2)
  have f54 := (Kp.trans f44 (Kp.of_below s47))
  have f55 := (below_own hd s47)
  have f56 := (hb1.trans (s47.mono hb1.size))
  refine ⟨⟨b50, f52⟩, ?_⟩
  refine fw_o1 27 (by kernel_rfl) ?_
  have hmo2 := f53
  obtain ⟨col, hcol⟩ := id hmo2
  refine fw_ot rfl 35 rfl rfl rfl (fun a h => (opTo_seg _ _ rfl (h.ev rfl) hcol.s.row (h.ev rfl) r48 rfl hSl (Nat.le_trans hBw b50.size))) ?_
  rintro vl2 V57 ⟨hgr, hog⟩
  obtain ⟨al2, cl2, rfl⟩ := own_slice hog
  have hSLB : ∀ k, (.slice al SL.length cl : Value).ownBlock = some k → B ≤ k ∧ k ≠ q ∧ k ∉ H := fun k hk => ⟨(blk_lt hcol.s.row hk).1, fun e => by have h0 := hcol.sc k (.inl hk); have h1 := hcol.hq; rw [e] at h0; omega, fun e => by have h0 := hcol.sc k (.inl hk); have h1 := (hcol.hH k (by simp [e])).2; omega⟩
  have hbN := (b50.trans (grew_low hgr (Nat.le_trans hBw b50.size) (fun k hk => (hSLB k hk).1)))
  have hkN : Kp H w V57 := Kp.trans f54 ⟨hgr.1.size, fun k hk hl => hgr.1.block k hl (fun e => (hSLB k e.symm).2.2 hk)⟩
  have hmoN := MO.send (MO.subH hmoW (fun k hk => hk)) f56 f55 hog hgr hWB
  have rN58 := (rowAt_keep r51 hgr.1 (fun e => (hSLB _ e.symm).2.1 rfl))
  have hqN : RowBut V57 q [.int .i64 c.link, .int .i64 c.ip, .int .i64 c.pp, .int .i64 c.po, .int .i64 c.st, .int .i64 c.una, .int .i64 c.nxt, .int .i64 c.win, .slice ao c.out.length co, .int .i64 c.rn, .slice ap PL.length cp, .bool c.cl, .bool c.tm.on, .int .i64 c.tm.left, .int .i64 c.tm.wait, .int .i64 c.tm.tries, .slice al SL.length cl] 16 := ⟨_, rN58⟩
  refine ⟨⟨hbN, hqN⟩, ?_⟩
  refine fw_tq 28 rfl rfl ?_
  refine fw_tq 29 rfl rfl ?_
  refine fw_o1 30 (by kernel_rfl) ?_
  refine fw_os rfl rN58 rfl rfl ?_
  intro W59 s60 r61
  have b62 := below_chg hbN s60 (by omega) (Nat.le_trans hBw hbN.size)
  have f63 := (RowBut.set r61 rfl)
  have f64 := (MO.chg hmoN s60 (.inl rfl))
  have f65 := (Kp.chg hkN s60 hqH)
  refine ⟨⟨b62, f63⟩, ?_⟩
  refine fw_hz (by kernel_rfl) ?_
  refine ⟨fun a h => ?_⟩
  exact bodyPost_end (v := .tuple #[]) (by simp [results, Try.results71]) h.df ⟨rfl, (Mch.mk (rf := false) (c := c) (T := T) (al := al2) (cl := cl2) (SL := SL ++ [(mkS c sq fl D, (.slice a2 D.length c2 : Value))]) (by rw [List.length_append, List.length_singleton]; exact r61) hps (by rw [List.map_append, hsl]; rfl) (by rw [List.length_append, List.length_singleton]; exact f64)), f65, b62⟩
 refine fw_oa rfl (t := 70) (u := fun q => .slice (some ⟨q, 0, none⟩) 1 1) 34 (ES.row (mkS c sq fl D) (.slice a2 D.length c2)) rfl rfl rfl (fun a h => (bsSeg (mkS c sq fl D) _ (h.ev rfl))) ?_
 intro q66 W67 g70 s68 r69
 have := Nat.le_trans (Nat.le_trans hBw b40.size) g70
 have := r41.lt g70
 have hnH_q66 : q66 ∉ H := fun hk => by have h0 := HHlt.out q66 hk; have h1 := f44.size; omega
 have := Nat.le_trans hb1.size g70
 have b71 := b40.trans (s68.mono (Nat.le_trans hBw b40.size))
 have r72 := r41.below s68
 have f73 := (RowBut.below f42 s68)
 have f74 := (MO.hold f43 s68 g70 r69.2.2)
 have f75 := (Kp.trans f44 (Kp.of_below s68))
 have f76 := (below_own hd s68)
 have f77 := (hb1.trans (s68.mono hb1.size))
 refine ⟨⟨b71, f73⟩, ?_⟩
 refine fw_o1 4 (by kernel_rfl) ?_
 refine fw_ol rfl r72 rfl rfl ?_
 refine fw_o1 27 (by kernel_rfl) ?_
 have hmo2 := f74
 obtain ⟨col, hcol⟩ := id hmo2
 refine fw_ot rfl 35 rfl rfl rfl (fun a h => (opTo_seg _ _ rfl (h.ev rfl) hcol.s.row (h.ev rfl) r69 rfl hSl (Nat.le_trans hBw b71.size))) ?_
 rintro vl2 V78 ⟨hgr, hog⟩
 obtain ⟨al2, cl2, rfl⟩ := own_slice hog
 have hSLB : ∀ k, (.slice al SL.length cl : Value).ownBlock = some k → B ≤ k ∧ k ≠ q ∧ k ∉ H := fun k hk => ⟨(blk_lt hcol.s.row hk).1, fun e => by have h0 := hcol.sc k (.inl hk); have h1 := hcol.hq; rw [e] at h0; omega, fun e => by have h0 := hcol.sc k (.inl hk); have h1 := (hcol.hH k (by simp [e])).2; omega⟩
 have hbN := (b71.trans (grew_low hgr (Nat.le_trans hBw b71.size) (fun k hk => (hSLB k hk).1)))
 have hkN : Kp H w V78 := Kp.trans f75 ⟨hgr.1.size, fun k hk hl => hgr.1.block k hl (fun e => (hSLB k e.symm).2.2 hk)⟩
 have hmoN := MO.send (MO.subH hmoW (fun k hk => hk)) f77 f76 hog hgr hWB
 have rN79 := (rowAt_keep r72 hgr.1 (fun e => (hSLB _ e.symm).2.1 rfl))
 have hqN : RowBut V78 q [.int .i64 c.link, .int .i64 c.ip, .int .i64 c.pp, .int .i64 c.po, .int .i64 c.st, .int .i64 c.una, .int .i64 c.nxt, .int .i64 c.win, .slice ao c.out.length co, .int .i64 c.rn, .slice ap PL.length cp, .bool c.cl, .bool c.tm.on, .int .i64 c.tm.left, .int .i64 c.tm.wait, .int .i64 c.tm.tries, .slice al SL.length cl] 16 := ⟨_, rN79⟩
 refine ⟨⟨hbN, hqN⟩, ?_⟩
 refine fw_tq 28 rfl rfl ?_
 refine fw_tq 29 rfl rfl ?_
 refine fw_o1 30 (by kernel_rfl) ?_
 refine fw_os rfl rN79 rfl rfl ?_
 intro W80 s81 r82
 have b83 := below_chg hbN s81 (by omega) (Nat.le_trans hBw hbN.size)
 have f84 := (RowBut.set r82 rfl)
 have f85 := (MO.chg hmoN s81 (.inl rfl))
 have f86 := (Kp.chg hkN s81 hqH)
 refine ⟨⟨b83, f84⟩, ?_⟩
 refine fw_hz (by kernel_rfl) ?_
 refine ⟨fun a h => ?_⟩
 exact bodyPost_end (v := .tuple #[]) (by simp [results, Try.results71]) h.df ⟨rfl, (Mch.mk (rf := false) (c := c) (T := T) (al := al2) (cl := cl2) (SL := SL ++ [(mkS c sq fl D, (.slice a2 D.length c2 : Value))]) (by rw [List.length_append, List.length_singleton]; exact r82) hps (by rw [List.map_append, hsl]; rfl) (by rw [List.length_append, List.length_singleton]; exact f85)), f86, b83⟩
set_option maxRecDepth 100000 in
set_option maxHeartbeats 4000000 in
theorem cack_any {B q : Nat} {H : List Nat} {c : EC} {l : List ES} {T : Td} {w : World} (hM : Mch B H q false c l T w) (hl5 : l.length ≤ 100000) :
    Does 90 #[.pointer (some ⟨q, 0, none⟩)] B H q false (.tuple #[]) c (ackN c l) T w := by
 obtain ⟨ao, co, ap, PL, cp, al, SL, cl, hr, hps, hsl, hmo⟩ := hM.opn
 have hBw : B ≤ w.heap.size := hmo.facts.2.1
 have hBq : B ≤ q := hmo.facts.1
 have hqw : q < w.heap.size := hmo.facts.2.2.1
 have hqH : q ∉ H := hmo.facts.2.2.2.1
 have HHlt := Lib.hid hmo.facts.2.2.2.2.1
 have hkp := Kp.refl H w
 have hb0 := Below.refl B w
 replace hr : RowAt w q [.int .i64 c.link, .int .i64 c.ip, .int .i64 c.pp, .int .i64 c.po, .int .i64 c.st, .int .i64 c.una, .int .i64 c.nxt, .int .i64 c.win, .slice ao c.out.length co, .int .i64 c.rn, .slice ap PL.length cp, .bool c.cl, .bool c.tm.on, .int .i64 c.tm.left, .int .i64 c.tm.wait, .int .i64 c.tm.tries, .slice al SL.length cl] := hr
 unfold Does
 refine fw_en 9 [(0, .pointer (some ⟨q, 0, none⟩))] Try.func90 rfl Try.ntmps90 rfl ⟨rfl, trivial⟩ ?_
 refine fw_rg rfl ?_
 iterate 5 refine fw_pu rfl ?_
 refine fw_ld hr rfl rfl ?_
 refine fw_ca Try.func71 rfl rfl rfl ((send_any (sq := c.nxt) (fl := 16) (D := []) (Mch.mk (rf := false) (c := c) (T := T) hr hps hsl hmo) (Sl_nil _) (by decide) hl5)) ?_
 rintro _ V1 ⟨rfl, hMz2, hKz2, hBz2⟩
 refine ⟨_, rfl, ?_⟩
 obtain ⟨l3, hl3⟩ : ∃ x, x = (l ++ [mkS c c.nxt 16 []]) := ⟨_, rfl⟩
 rw [← hl3] at hMz2
 obtain ⟨aoz2, coz2, apz2, PLz2, cpz2, alz2, SLz2, clz2, hrz2, hpsz2, hslz2, hmoz2⟩ := Mch.opn hMz2
 have b4 := (hb0.trans hBz2)
 have r5 := hrz2
 have f6 := hmoz2
 have f7 := (Kp.trans hkp (Kp.sub hKz2 (fun k hk => by simp [hk])))
 refine fw_dn ?_
 refine ⟨fun a h => ?_⟩
 exact bodyPost_end (v := .tuple #[]) (by simp [results, Try.results90]) h.df ⟨rfl, (by have h0 := (Mch.mk (rf := false) (c := c) (T := T) r5 hpsz2 hslz2 f6); simp only [hl3] at h0; exact h0), f7, b4⟩
set_option maxRecDepth 100000 in
set_option maxHeartbeats 4000000 in
theorem abort_any {B q : Nat} {H : List Nat} {c : EC} {l : List ES} {T : Td} {w : World} (hM : Mch B H q false c l T w) (hl5 : l.length ≤ 100000) :
    Does 86 #[.pointer (some ⟨q, 0, none⟩)] B H q false (.tuple #[]) (abortS c l).1 (abortS c l).2 T w := by
 obtain ⟨ao, co, ap, PL, cp, al, SL, cl, hr, hps, hsl, hmo⟩ := hM.opn
 have hBw : B ≤ w.heap.size := hmo.facts.2.1
 have hBq : B ≤ q := hmo.facts.1
 have hqw : q < w.heap.size := hmo.facts.2.2.1
 have hqH : q ∉ H := hmo.facts.2.2.2.1
 have HHlt := Lib.hid hmo.facts.2.2.2.2.1
 have hkp := Kp.refl H w
 have hb0 := Below.refl B w
 replace hr : RowAt w q [.int .i64 c.link, .int .i64 c.ip, .int .i64 c.pp, .int .i64 c.po, .int .i64 c.st, .int .i64 c.una, .int .i64 c.nxt, .int .i64 c.win, .slice ao c.out.length co, .int .i64 c.rn, .slice ap PL.length cp, .bool c.cl, .bool c.tm.on, .int .i64 c.tm.left, .int .i64 c.tm.wait, .int .i64 c.tm.tries, .slice al SL.length cl] := hr
 unfold Does
 refine fw_en 17 [(0, .pointer (some ⟨q, 0, none⟩))] Try.func86 rfl Try.ntmps86 rfl ⟨rfl, trivial⟩ ?_
 refine fw_sq ?_
 refine fw_sq ?_
 refine fw_rg rfl ?_
 iterate 4 refine fw_pu rfl ?_
 refine fw_ld hr rfl rfl ?_
 refine fw_pu rfl ?_
 refine fw_dt ?_
 rcases Bool.eq_false_or_eq_true ((c.st == 0)) with hb_1 | hb_1
 ·skip
  refine fw_cF rfl (not_of hb_1) ?_
  refine fw_sk ?_
  refine fw_th ?_
  refine fw_rg rfl ?_
  refine fw_pu rfl ?_
  refine fw_ca Try.func84 rfl rfl rfl ((shut_any (Mch.mk (rf := false) (c := c) (T := T) hr hps hsl hmo))) ?_
  rintro _ V2 ⟨rfl, hMz3, hKz3, hBz3⟩
  refine ⟨_, rfl, ?_⟩
  obtain ⟨c4, hc4⟩ : ∃ x, x = (shutC c) := ⟨_, rfl⟩
  rw [← hc4] at hMz3
  obtain ⟨aoz3, coz3, apz3, PLz3, cpz3, alz3, SLz3, clz3, hrz3, hpsz3, hslz3, hmoz3⟩ := Mch.opn hMz3
  have b5 := (hb0.trans hBz3)
  have r6 := hrz3
  have f7 := hmoz3
  have f8 := (Kp.trans hkp (Kp.sub hKz3 (fun k hk => by simp [hk])))
  refine fw_dn ?_
  refine ⟨fun a h => ?_⟩
  exact bodyPost_end (v := .tuple #[]) (by simp [results, Try.results86]) h.df ⟨rfl, (by have h0 := (Mch.mk (rf := false) (c := c4) (T := T) r6 hpsz3 hslz3 f7); simp only [hc4] at h0; exact abort_eq hb_1 h0), f8, b5⟩
 refine fw_cT rfl (not_of hb_1) ?_
 refine fw_rg rfl ?_
 iterate 5 refine fw_pu rfl ?_
 refine fw_ld hr rfl rfl ?_
 refine fw_ca Try.func71 rfl rfl rfl ((send_any (sq := c.nxt) (fl := 20) (D := []) (Mch.mk (rf := false) (c := c) (T := T) hr hps hsl hmo) (Sl_nil _) (by decide) hl5)) ?_
 rintro _ V9 ⟨rfl, hMz10, hKz10, hBz10⟩
 refine ⟨_, rfl, ?_⟩
 obtain ⟨l11, hl11⟩ : ∃ x, x = (l ++ [mkS c c.nxt 20 []]) := ⟨_, rfl⟩
 rw [← hl11] at hMz10
 obtain ⟨aoz10, coz10, apz10, PLz10, cpz10, alz10, SLz10, clz10, hrz10, hpsz10, hslz10, hmoz10⟩ := Mch.opn hMz10
 have b12 := (hb0.trans hBz10)
 have r13 := hrz10
 have f14 := hmoz10
 have f15 := (Kp.trans hkp (Kp.sub hKz10 (fun k hk => by simp [hk])))
 refine fw_dt ?_
 refine fw_rg rfl ?_
 refine fw_pu rfl ?_
 refine fw_ca Try.func84 rfl rfl rfl ((shut_any (Mch.mk (rf := false) (c := c) (T := T) r13 hpsz10 hslz10 f14))) ?_
 rintro _ V16 ⟨rfl, hMz17, hKz17, hBz17⟩
 refine ⟨_, rfl, ?_⟩
 obtain ⟨c18, hc18⟩ : ∃ x, x = (shutC c) := ⟨_, rfl⟩
 rw [← hc18] at hMz17
 obtain ⟨aoz17, coz17, apz17, PLz17, cpz17, alz17, SLz17, clz17, hrz17, hpsz17, hslz17, hmoz17⟩ := Mch.opn hMz17
 have b19 := (b12.trans hBz17)
 have r20 := hrz17
 have f21 := hmoz17
 have f22 := (Kp.trans f15 (Kp.sub hKz17 (fun k hk => by simp [hk])))
 refine fw_dn ?_
 refine ⟨fun a h => ?_⟩
 exact bodyPost_end (v := .tuple #[]) (by simp [results, Try.results86]) h.df ⟨rfl, (by have h0 := (Mch.mk (rf := false) (c := c18) (T := T) r20 hpsz17 hslz17 f21); simp only [hc18, hl11] at h0; exact abort_eq hb_1 h0), f22, b19⟩

theorem hears_beq (c : EC) : hearsC c = ((c.st == 2) || ((c.st == 3) || (c.st == 4))) := by
  unfold hearsC
  have e : ∀ x y : Int, (x == y) = decide (x = y) := fun x y => by by_cases h : x = y <;> simp [h]
  rw [e, e, e]
theorem Mch.subH {B q : Nat} {H H' : List Nat} {rf : Bool} {c : EC} {l : List ES} {T : Td} {W : World} (h : Mch B H' q rf c l T W) (hs : ∀ k ∈ H, k ∈ H') : Mch B H q rf c l T W := by
  obtain ⟨ao, co, ap, PL, cp, al, SL, cl, hr, hps, hsl, hmo⟩ := h.opn
  exact Mch.mk hr hps hsl (hmo.subH hs)
theorem slice_int {W : World} {v : Value} {l : List UInt8} (h : Sl W v l) (i j : Int) (h0 : 0 ≤ i) (h1 : i ≤ j) (h2 : j ≤ l.length) : ∃ v', (∀ W, (Instr.sliceAt 34 v (some (.int .i64 i)) (some (.int .i64 j)) none).run Try.prog W = .ok v' W) ∧ Sl W v' ((l.drop i.toNat).take (j - i).toNat) := by
  obtain ⟨v', hr, hs⟩ := slice_sl h i.toNat j.toNat (by omega) (by omega)
  refine ⟨v', fun W => ?_, ?_⟩
  · have := hr W
    rwa [show ((i.toNat : Nat) : Int) = i by omega, show ((j.toNat : Nat) : Int) = j by omega] at this
  · rwa [show j.toNat - i.toNat = (j - i).toNat by omega] at hs
theorem slice_toI {W : World} {v : Value} {l : List UInt8} (h : Sl W v l) (j : Int) (h1 : 0 ≤ j) (h2 : j ≤ l.length) : ∃ v', (∀ W, (Instr.sliceAt 34 v none (some (.int .i64 j)) none).run Try.prog W = .ok v' W) ∧ Sl W v' (l.take j.toNat) := by
  obtain ⟨v', hr, hs⟩ := slice_to h j.toNat (by omega)
  refine ⟨v', fun W => ?_, hs⟩
  have := hr W
  rwa [show ((j.toNat : Nat) : Int) = j by omega] at this
theorem slice_fromI {W : World} {v : Value} {l : List UInt8} (h : Sl W v l) (i : Int) (h0 : 0 ≤ i) (h1 : i ≤ l.length) : ∃ v', (∀ W, (Instr.sliceAt 34 v (some (.int .i64 i)) none none).run Try.prog W = .ok v' W) ∧ Sl W v' (l.drop i.toNat) := by
  obtain ⟨ao, cap, rfl, hcl, -⟩ := id h
  have hcl2 : ¬ cap < l.length := by omega
  obtain ⟨v', hr, hs⟩ := slice_int h i l.length h0 h1 (Int.le_refl _)
  refine ⟨v', fun W => ?_, ?_⟩
  · have := hr W
    rw [← this]
    cases ao <;> simp [go_sem, Instr.sliceAt, Instr.slice, Instr.sliceBounds, Instr.sliceBound, asIntOf, run_underlying Try.underlying34, hcl2]
  · rwa [show ((l.length : Int) - i).toNat = (l.drop i.toNat).length by rw [List.length_drop]; omega, List.take_length] at hs
set_option maxRecDepth 100000 in
set_option maxHeartbeats 4000000 in
theorem hears_any (q : Nat) (c : EC) (vo vp vl : Value) (w : World) (hr : RowAt w q (c.row vo vp ++ [vl])) :
    Calls Try.prog 92 #[.pointer (some ⟨q, 0, none⟩)] w fun e w' => e = .returned (.bool (hearsC c)) ∧ Below w.heap.size w w' := by
 have hb0 := Below.refl w.heap.size w
 refine fw_en 25 [(0, .pointer (some ⟨q, 0, none⟩))] Try.func92 rfl Try.ntmps92 rfl ⟨rfl, trivial⟩ ?_
 refine fw_sq ?_
 refine fw_rg rfl ?_
 refine fw_pu rfl ?_
 refine fw_dt ?_
 refine fw_sq ?_
 refine fw_rg rfl ?_
 iterate 4 refine fw_pu rfl ?_
 refine fw_ld hr rfl rfl ?_
 iterate 2 refine fw_pu rfl ?_
 rcases Bool.eq_false_or_eq_true ((c.st == 2)) with hb_1 | hb_1
 ·skip
  refine fw_kn 9 rfl hb_1 ?_
  iterate 16 refine fw_pu rfl ?_
  refine fw_dt ?_
  refine fw_rt ?_
  refine ⟨fun a h => ?_⟩
  exact ow_ret1 rfl h.df (h.g 2 rfl) ⟨by rw [hears_beq, hb_1]; rfl, hb0⟩
 refine fw_kn 9 rfl hb_1 ?_
 iterate 4 refine fw_pu rfl ?_
 refine fw_ld hr rfl rfl ?_
 iterate 3 refine fw_pu rfl ?_
 rcases Bool.eq_false_or_eq_true ((c.st == 3)) with hb_2 | hb_2
 ·skip
  refine fw_kn 17 rfl hb_2 ?_
  iterate 8 refine fw_pu rfl ?_
  refine fw_dt ?_
  refine fw_rt ?_
  refine ⟨fun a h => ?_⟩
  exact ow_ret1 rfl h.df (h.g 2 rfl) ⟨by rw [hears_beq, hb_1, hb_2]; rfl, hb0⟩
 refine fw_kn 17 rfl hb_2 ?_
 iterate 4 refine fw_pu rfl ?_
 refine fw_ld hr rfl rfl ?_
 iterate 3 refine fw_pu rfl ?_
 refine fw_dt ?_
 refine fw_rt ?_
 refine ⟨fun a h => ?_⟩
 exact ow_ret1 rfl h.df (h.g 2 rfl) ⟨by rw [hears_beq, hb_1, hb_2]; rfl, hb0⟩
set_option maxRecDepth 100000 in
set_option maxHeartbeats 4000000 in
theorem acc_any (q : Nat) (c : EC) (vo vp vl : Value) (sq n : Int) (w : World) (hr : RowAt w q (c.row vo vp ++ [vl])) (hrn : 0 ≤ c.rn ∧ c.rn < 4294967296) (hsq : 0 ≤ sq ∧ sq < 4294967296) (hn : 0 ≤ n ∧ n ≤ 1000000) :
    Calls Try.prog 88 #[.pointer (some ⟨q, 0, none⟩), .int .i64 sq, .int .i64 n] w fun e w' => e = .returned (.bool (hasB c.rn 2048 sq || (decide (0 < n) && hasB c.rn 2048 (addv sq (n - 1))))) ∧ Below w.heap.size w w' := by
 have hb0 := Below.refl w.heap.size w
 refine fw_en 46 [(0, .pointer (some ⟨q, 0, none⟩)), (1, .int .i64 sq), (2, .int .i64 n)] Try.func88 rfl Try.ntmps88 rfl ⟨rfl, rfl, rfl, trivial⟩ ?_
 refine fw_sq ?_
 refine fw_rg rfl ?_
 refine fw_pu rfl ?_
 refine fw_dt ?_
 refine fw_sq ?_
 refine fw_rg rfl ?_
 iterate 5 refine fw_pu rfl ?_
 refine fw_ld hr rfl rfl ?_
 refine fw_cv (fun v X => v = (.tuple #[.complex .f64 (floatOfInt .f64 c.rn) (floatOfInt .f64 2048), .int .i64 0]) ∧ w = X) Try.func47 rfl rfl rfl (((ofI c.rn 2048 hrn (by decide) w)).mono fun e X h => ⟨_, h.1, rfl, h.2⟩) ?_
 rintro _ _ ⟨rfl, rfl⟩
 iterate 5 refine fw_pu rfl ?_
 refine fw_dt ?_
 refine fw_sq ?_
 refine fw_rg rfl ?_
 iterate 2 refine fw_pu rfl ?_
 refine fw_cv (fun v X => v = (.tuple #[.bool (hasB c.rn 2048 sq), .int .i64 0]) ∧ w = X) Try.func96 rfl rfl rfl (((hasI c.rn 2048 hrn (by decide) sq hsq w)).mono fun e X h => ⟨_, h.1, rfl, h.2⟩) ?_
 rintro _ _ ⟨rfl, rfl⟩
 iterate 5 refine fw_pu rfl ?_
 refine fw_dt ?_
 refine fw_sq ?_
 refine fw_rg rfl ?_
 iterate 3 refine fw_pu rfl ?_
 refine fw_ex 33 (.int .i64 (n - 1)) rfl rfl rfl (fun a h => (run_binOp (h.ev rfl) (h.ev rfl) (by simp [go_sem]) (subIw _ _ _ _ (by omega) (by omega) (by omega)))) ?_
 refine fw_cv (fun v X => v = (.int .i64 (addv sq (n - 1))) ∧ w = X) Try.func54 rfl rfl rfl (((spanAdd_any sq (n - 1) w)).mono fun e X h => ⟨_, h.1, rfl, h.2⟩) ?_
 rintro _ _ ⟨rfl, rfl⟩
 refine fw_cv (fun v X => v = (.tuple #[.bool (hasB c.rn 2048 (addv sq (n - 1))), .int .i64 0]) ∧ w = X) Try.func96 rfl rfl rfl (((hasI c.rn 2048 hrn (by decide) (addv sq (n - 1)) (addv_bd _ _) w)).mono fun e X h => ⟨_, h.1, rfl, h.2⟩) ?_
 rintro _ _ ⟨rfl, rfl⟩
 iterate 5 refine fw_pu rfl ?_
 refine fw_dt ?_
 refine fw_fg [(2, _), (6, _), (9, _), (11, _)] ⟨rfl, rfl, rfl, rfl, trivial⟩ ?_
 refine fw_sq ?_
 refine fw_rg rfl ?_
 iterate 2 refine fw_pu rfl ?_
 rcases Bool.eq_false_or_eq_true ((hasB c.rn 2048 sq)) with hb_1 | hb_1
 ·skip
  refine fw_kn 39 rfl hb_1 ?_
  iterate 7 refine fw_pu rfl ?_
  refine fw_dt ?_
  refine fw_rt ?_
  refine ⟨fun a h => ?_⟩
  exact ow_ret1 rfl h.df (h.g 6 rfl) ⟨by rw [hb_1]; simp, hb0⟩
 refine fw_kn 39 rfl hb_1 ?_
 iterate 3 refine fw_pu rfl ?_
 rcases Bool.eq_false_or_eq_true ((decide (0 < n))) with hb_2 | hb_2
 ·skip
  refine fw_kn 42 rfl hb_2 ?_
  iterate 4 refine fw_pu rfl ?_
  refine fw_dt ?_
  refine fw_rt ?_
  refine ⟨fun a h => ?_⟩
  exact ow_ret1 rfl h.df (h.g 6 rfl) ⟨by rw [hb_1]; rw [hb_2]; simp, hb0⟩
 refine fw_kn 42 rfl hb_2 ?_
 iterate 4 refine fw_pu rfl ?_
 refine fw_dt ?_
 refine fw_rt ?_
 refine ⟨fun a h => ?_⟩
 exact ow_ret1 rfl h.df (h.g 6 rfl) ⟨by rw [hb_1]; rw [hb_2]; simp, hb0⟩
set_option maxRecDepth 100000 in
set_option maxHeartbeats 4000000 in
theorem finA_any {B q : Nat} {H : List Nat} {c : EC} {l : List ES} {T : Td} {w : World} (hM : Mch B H q false c l T w) :
    Does 97 #[.pointer (some ⟨q, 0, none⟩)] B H q false (.tuple #[]) (finA c) l T w := by
 obtain ⟨ao, co, ap, PL, cp, al, SL, cl, hr, hps, hsl, hmo⟩ := hM.opn
 have hBw : B ≤ w.heap.size := hmo.facts.2.1
 have hBq : B ≤ q := hmo.facts.1
 have hqw : q < w.heap.size := hmo.facts.2.2.1
 have hqH : q ∉ H := hmo.facts.2.2.2.1
 have HHlt := Lib.hid hmo.facts.2.2.2.2.1
 have hkp := Kp.refl H w
 have hb0 := Below.refl B w
 replace hr : RowAt w q [.int .i64 c.link, .int .i64 c.ip, .int .i64 c.pp, .int .i64 c.po, .int .i64 c.st, .int .i64 c.una, .int .i64 c.nxt, .int .i64 c.win, .slice ao c.out.length co, .int .i64 c.rn, .slice ap PL.length cp, .bool c.cl, .bool c.tm.on, .int .i64 c.tm.left, .int .i64 c.tm.wait, .int .i64 c.tm.tries, .slice al SL.length cl] := hr
 unfold Does
 refine fw_en 25 [(0, .pointer (some ⟨q, 0, none⟩))] Try.func97 rfl Try.ntmps97 rfl ⟨rfl, trivial⟩ ?_
 refine fw_sq ?_
 refine fw_rg rfl ?_
 iterate 4 refine fw_pu rfl ?_
 refine fw_ld hr rfl rfl ?_
 refine fw_dt ?_
 refine fw_bk ?_
 refine fw_sq ?_
 refine fw_rg rfl ?_
 iterate 2 refine fw_pu rfl ?_
 refine fw_dt ?_
 rcases Bool.eq_false_or_eq_true ((c.st == 3)) with hb_1 | hb_1
 ·skip
  refine fw_cT rfl hb_1 ?_
  refine fw_rg rfl ?_
  iterate 4 refine fw_pu rfl ?_
  refine fw_st hr rfl rfl ?_
  intro W2 s3 r4
  have b5 := below_chg hb0 s3 (by omega) (Nat.le_trans hBw hb0.size)
  have f6 := (MO.chg hmo s3 (.inl rfl))
  have f7 := (Kp.chg hkp s3 hqH)
  refine fw_dn ?_
  refine fw_bn ?_
  refine ⟨fun a h => ?_⟩
  exact bodyPost_end (v := .tuple #[]) (by simp [results, Try.results97]) h.df ⟨rfl, (by have h0 := (Mch.mk (rf := false) (c := ({ c with st := 4 } : EC)) (T := T) r4 hps hsl f6); unfold finA; rw [if_pos (by have h := hb_1; simpa using h)]; exact h0), f7, b5⟩
 refine fw_cF rfl hb_1 ?_
 refine fw_sq ?_
 refine fw_rg rfl ?_
 iterate 2 refine fw_pu rfl ?_
 refine fw_dt ?_
 rcases Bool.eq_false_or_eq_true ((c.st == 6)) with hb_8 | hb_8
 ·skip
  refine fw_cT rfl hb_8 ?_
  refine fw_sq ?_
  refine fw_rg rfl ?_
  iterate 4 refine fw_pu rfl ?_
  refine fw_st hr rfl rfl ?_
  intro W9 s10 r11
  have b12 := below_chg hb0 s10 (by omega) (Nat.le_trans hBw hb0.size)
  have f13 := (MO.chg hmo s10 (.inl rfl))
  have f14 := (Kp.chg hkp s10 hqH)
  refine fw_dt ?_
  refine fw_rg rfl ?_
  refine fw_pu rfl ?_
  refine fw_ca Try.func70 rfl rfl rfl ((cstart_any (n := 20) (Mch.mk (rf := false) (c := ({ c with st := 8 } : EC)) (T := T) r11 hps hsl f13) (by decide) (by decide))) ?_
  rintro _ V15 ⟨rfl, hMz16, hKz16, hBz16⟩
  refine ⟨_, rfl, ?_⟩
  obtain ⟨c17, hc17⟩ : ∃ x, x = ({ ({ c with st := 8 } : EC) with tm := tmS 20 } : EC) := ⟨_, rfl⟩
  rw [← hc17] at hMz16
  obtain ⟨aoz16, coz16, apz16, PLz16, cpz16, alz16, SLz16, clz16, hrz16, hpsz16, hslz16, hmoz16⟩ := Mch.opn hMz16
  have b18 := (b12.trans hBz16)
  have r19 := hrz16
  have f20 := hmoz16
  have f21 := (Kp.trans f14 (Kp.sub hKz16 (fun k hk => by simp [hk])))
  refine fw_dn ?_
  refine fw_bn ?_
  refine ⟨fun a h => ?_⟩
  exact bodyPost_end (v := .tuple #[]) (by simp [results, Try.results97]) h.df ⟨rfl, (by have h0 := (Mch.mk (rf := false) (c := c17) (T := T) r19 hpsz16 hslz16 f20); simp only [hc17] at h0; unfold finA; rw [if_neg (by have h := hb_1; simpa using h), if_pos (by have h := hb_8; simpa using h)]; exact h0), f21, b18⟩
 refine fw_cF rfl hb_8 ?_
 refine fw_sq ?_
 refine fw_rg rfl ?_
 iterate 2 refine fw_pu rfl ?_
 refine fw_dt ?_
 rcases Bool.eq_false_or_eq_true ((c.st == 7)) with hb_22 | hb_22
 ·skip
  refine fw_cT rfl hb_22 ?_
  refine fw_rg rfl ?_
  refine fw_pu rfl ?_
  refine fw_ca Try.func84 rfl rfl rfl ((shut_any (Mch.mk (rf := false) (c := c) (T := T) hr hps hsl hmo))) ?_
  rintro _ V23 ⟨rfl, hMz24, hKz24, hBz24⟩
  refine ⟨_, rfl, ?_⟩
  obtain ⟨c25, hc25⟩ : ∃ x, x = (shutC c) := ⟨_, rfl⟩
  rw [← hc25] at hMz24
  obtain ⟨aoz24, coz24, apz24, PLz24, cpz24, alz24, SLz24, clz24, hrz24, hpsz24, hslz24, hmoz24⟩ := Mch.opn hMz24
  have b26 := (hb0.trans hBz24)
  have r27 := hrz24
  have f28 := hmoz24
  have f29 := (Kp.trans hkp (Kp.sub hKz24 (fun k hk => by simp [hk])))
  refine fw_dn ?_
  refine fw_bn ?_
  refine ⟨fun a h => ?_⟩
  exact bodyPost_end (v := .tuple #[]) (by simp [results, Try.results97]) h.df ⟨rfl, (by have h0 := (Mch.mk (rf := false) (c := c25) (T := T) r27 hpsz24 hslz24 f28); simp only [hc25] at h0; unfold finA; rw [if_neg (by have h := hb_1; simpa using h), if_neg (by have h := hb_8; simpa using h), if_pos (by have h := hb_22; simpa using h)]; exact h0), f29, b26⟩
 refine fw_cF rfl hb_22 ?_
 refine fw_sk ?_
 refine fw_bn ?_
 refine ⟨fun a h => ?_⟩
 exact bodyPost_end (v := .tuple #[]) (by simp [results, Try.results97]) h.df ⟨rfl, (by have h0 := (Mch.mk (rf := false) (c := c) (T := T) hr hps hsl hmo); unfold finA; rw [if_neg (by have h := hb_1; simpa using h), if_neg (by have h := hb_8; simpa using h), if_neg (by have h := hb_22; simpa using h)]; exact h0), hkp, hb0⟩
set_option maxRecDepth 100000 in
set_option maxHeartbeats 4000000 in
theorem out_any {B q : Nat} {H : List Nat} {c : EC} {l : List ES} {T : Td} {w : World} {s : ES} {ad : Option Addr} {cd : Nat} (hM : Mch B H q false c l T w) (hl5 : l.length ≤ 100000) :
    Does 89 #[.pointer (some ⟨q, 0, none⟩), .agg #[.int .i64 s.sp, .int .i64 s.dp, .int .i64 s.sq, .int .i64 s.ak, .int .i64 s.fl, .int .i64 s.wn, .slice ad s.d.length cd]] B H q false (.tuple #[]) (outS c l s).1 (outS c l s).2 T w := by
 obtain ⟨ao, co, ap, PL, cp, al, SL, cl, hr, hps, hsl, hmo⟩ := hM.opn
 have hBw : B ≤ w.heap.size := hmo.facts.2.1
 have hBq : B ≤ q := hmo.facts.1
 have hqw : q < w.heap.size := hmo.facts.2.2.1
 have hqH : q ∉ H := hmo.facts.2.2.2.1
 have HHlt := Lib.hid hmo.facts.2.2.2.2.1
 have hkp := Kp.refl H w
 have hb0 := Below.refl B w
 replace hr : RowAt w q [.int .i64 c.link, .int .i64 c.ip, .int .i64 c.pp, .int .i64 c.po, .int .i64 c.st, .int .i64 c.una, .int .i64 c.nxt, .int .i64 c.win, .slice ao c.out.length co, .int .i64 c.rn, .slice ap PL.length cp, .bool c.cl, .bool c.tm.on, .int .i64 c.tm.left, .int .i64 c.tm.wait, .int .i64 c.tm.tries, .slice al SL.length cl] := hr
 unfold Does
 refine fw_en 18 [(0, .pointer (some ⟨q, 0, none⟩)), (1, .agg #[.int .i64 s.sp, .int .i64 s.dp, .int .i64 s.sq, .int .i64 s.ak, .int .i64 s.fl, .int .i64 s.wn, .slice ad s.d.length cd])] Try.func89 rfl Try.ntmps89 rfl ⟨rfl, rfl, trivial⟩ ?_
 refine fw_sq ?_
 refine fw_rg rfl ?_
 refine fw_bx rfl (cs := [.int .i64 s.sp, .int .i64 s.dp, .int .i64 s.sq, .int .i64 s.ak, .int .i64 s.fl, .int .i64 s.wn, .slice ad s.d.length cd]) rfl ?_
 intro q1 W2 g5 s3 r4
 have := Nat.le_trans (Nat.le_trans hBw hb0.size) g5
 have := hr.lt g5
 have hnH_q1 : q1 ∉ H := fun hk => by have h0 := HHlt.out q1 hk; have h1 := hkp.size; omega
 have b6 := hb0.trans (s3.mono (Nat.le_trans hBw hb0.size))
 have r7 := hr.below s3
 have f8 := (MO.hold hmo s3 g5 r4.2.2)
 have f9 := (Kp.trans hkp (Kp.of_below s3))
 refine fw_dt ?_
 refine fw_sq ?_
 refine fw_sq ?_
 refine fw_rg rfl ?_
 refine fw_pu rfl ?_
 refine fw_ld r4 rfl rfl ?_
 refine fw_ex 6 (.int .i64 (bits .and .i64 s.fl 4)) rfl rfl rfl (fun a h => (run_binOp (h.ev rfl) (h.ev rfl) (by simp [go_sem]) (andIw _ _ _))) ?_
 refine fw_pu rfl ?_
 refine fw_dt ?_
 rcases Bool.eq_false_or_eq_true ((fb s.fl 4)) with hb_10 | hb_10
 ·skip
  refine fw_cT rfl hb_10 ?_
  refine fw_rt ?_
  refine fw_tr ?_
  refine ⟨fun a h => ?_⟩
  exact bodyPost_ret (v := .tuple #[]) (by simp [results, Try.results89]) h.df ⟨rfl, (by have h0 := (Mch.subH (H := H) (Mch.mk (rf := false) (c := c) (T := T) r7 hps hsl f8) (fun k hk => by simp [hk])); unfold outS; rw [if_pos hb_10]; exact h0), f9, b6⟩
 refine fw_cF rfl hb_10 ?_
 refine fw_sk ?_
 refine fw_th ?_
 refine fw_sq ?_
 refine fw_rg rfl ?_
 refine fw_pu rfl ?_
 refine fw_ca Try.func90 rfl rfl rfl ((cack_any (Mch.mk (rf := false) (c := c) (T := T) r7 hps hsl f8) hl5)) ?_
 rintro _ V11 ⟨rfl, hMz12, hKz12, hBz12⟩
 refine ⟨_, rfl, ?_⟩
 obtain ⟨l13, hl13⟩ : ∃ x, x = (ackN c l) := ⟨_, rfl⟩
 rw [← hl13] at hMz12
 obtain ⟨aoz12, coz12, apz12, PLz12, cpz12, alz12, SLz12, clz12, hrz12, hpsz12, hslz12, hmoz12⟩ := Mch.opn hMz12
 have b14 := (b6.trans hBz12)
 have r15 := hrz12
 have f17 := hmoz12
 have f18 := (Kp.trans f9 (Kp.sub hKz12 (fun k hk => by simp [hk])))
 refine fw_dt ?_
 refine fw_sq ?_
 refine fw_rg rfl ?_
 iterate 4 refine fw_pu rfl ?_
 refine fw_ld r15 rfl rfl ?_
 refine fw_pu rfl ?_
 refine fw_dt ?_
 rcases Bool.eq_false_or_eq_true ((c.st == 8)) with hb_19 | hb_19
 ·skip
  refine fw_cT rfl hb_19 ?_
  refine fw_rg rfl ?_
  refine fw_pu rfl ?_
  refine fw_ca Try.func70 rfl rfl rfl ((cstart_any (n := 20) (Mch.mk (rf := false) (c := c) (T := T) r15 hpsz12 hslz12 f17) (by decide) (by decide))) ?_
  rintro _ V20 ⟨rfl, hMz21, hKz21, hBz21⟩
  refine ⟨_, rfl, ?_⟩
  obtain ⟨c22, hc22⟩ : ∃ x, x = ({ c with tm := tmS 20 } : EC) := ⟨_, rfl⟩
  rw [← hc22] at hMz21
  obtain ⟨aoz21, coz21, apz21, PLz21, cpz21, alz21, SLz21, clz21, hrz21, hpsz21, hslz21, hmoz21⟩ := Mch.opn hMz21
  have b23 := (b14.trans hBz21)
  have r24 := hrz21
  have f26 := hmoz21
  have f27 := (Kp.trans f18 (Kp.sub hKz21 (fun k hk => by simp [hk])))
  refine fw_dn ?_
  refine ⟨fun a h => ?_⟩
  exact bodyPost_end (v := .tuple #[]) (by simp [results, Try.results89]) h.df ⟨rfl, (by have h0 := (Mch.subH (H := H) (Mch.mk (rf := false) (c := c22) (T := T) r24 hpsz21 hslz21 f26) (fun k hk => by simp [hk])); simp only [hc22, hl13] at h0; unfold outS; rw [if_neg (by rw [hb_10]; exact Bool.false_ne_true)]; simp only [if_pos (by have h := hb_19; simpa using h)]; exact h0), f27, b23⟩
 refine fw_cF rfl hb_19 ?_
 refine fw_sk ?_
 refine ⟨fun a h => ?_⟩
 exact bodyPost_end (v := .tuple #[]) (by simp [results, Try.results89]) h.df ⟨rfl, (by have h0 := (Mch.subH (H := H) (Mch.mk (rf := false) (c := c) (T := T) r15 hpsz12 hslz12 f17) (fun k hk => by simp [hk])); simp only [hl13] at h0; unfold outS; rw [if_neg (by rw [hb_10]; exact Bool.false_ne_true)]; simp only [if_neg (by have h := hb_19; simpa using h)]; exact h0), f18, b14⟩
set_option maxRecDepth 100000 in
set_option maxHeartbeats 4000000 in
theorem finish_any {B q : Nat} {H : List Nat} {c : EC} {l : List ES} {T : Td} {w : World} {s : ES} {ad : Option Addr} {cd : Nat} (hM : Mch B H q false c l T w) :
    Does 93 #[.pointer (some ⟨q, 0, none⟩), .agg #[.int .i64 s.sp, .int .i64 s.dp, .int .i64 s.sq, .int .i64 s.ak, .int .i64 s.fl, .int .i64 s.wn, .slice ad s.d.length cd]] B H q false (.tuple #[]) (finS c s) l T w := by
 obtain ⟨ao, co, ap, PL, cp, al, SL, cl, hr, hps, hsl, hmo⟩ := hM.opn
 have hBw : B ≤ w.heap.size := hmo.facts.2.1
 have hBq : B ≤ q := hmo.facts.1
 have hqw : q < w.heap.size := hmo.facts.2.2.1
 have hqH : q ∉ H := hmo.facts.2.2.2.1
 have HHlt := Lib.hid hmo.facts.2.2.2.2.1
 have hkp := Kp.refl H w
 have hb0 := Below.refl B w
 replace hr : RowAt w q [.int .i64 c.link, .int .i64 c.ip, .int .i64 c.pp, .int .i64 c.po, .int .i64 c.st, .int .i64 c.una, .int .i64 c.nxt, .int .i64 c.win, .slice ao c.out.length co, .int .i64 c.rn, .slice ap PL.length cp, .bool c.cl, .bool c.tm.on, .int .i64 c.tm.left, .int .i64 c.tm.wait, .int .i64 c.tm.tries, .slice al SL.length cl] := hr
 unfold Does
 refine fw_en 70 [(0, .pointer (some ⟨q, 0, none⟩)), (1, .agg #[.int .i64 s.sp, .int .i64 s.dp, .int .i64 s.sq, .int .i64 s.ak, .int .i64 s.fl, .int .i64 s.wn, .slice ad s.d.length cd])] Try.func93 rfl Try.ntmps93 rfl ⟨rfl, rfl, trivial⟩ ?_
 refine fw_sq ?_
 refine fw_rg rfl ?_
 refine fw_bx rfl (cs := [.int .i64 s.sp, .int .i64 s.dp, .int .i64 s.sq, .int .i64 s.ak, .int .i64 s.fl, .int .i64 s.wn, .slice ad s.d.length cd]) rfl ?_
 intro q1 W2 g5 s3 r4
 have := Nat.le_trans (Nat.le_trans hBw hb0.size) g5
 have := hr.lt g5
 have hnH_q1 : q1 ∉ H := fun hk => by have h0 := HHlt.out q1 hk; have h1 := hkp.size; omega
 have b6 := hb0.trans (s3.mono (Nat.le_trans hBw hb0.size))
 have r7 := hr.below s3
 have f8 := (MO.hold hmo s3 g5 r4.2.2)
 have f9 := (Kp.trans hkp (Kp.of_below s3))
 refine fw_dt ?_
 refine fw_sq ?_
 refine fw_sq ?_
 have hqz10 := RowBut.of (k := 16) r7 rfl
 refine fw_hr (fun X => Below B w X ∧ RowAt X q1 [.int .i64 s.sp, .int .i64 s.dp, .int .i64 s.sq, .int .i64 s.ak, .int .i64 s.fl, .int .i64 s.wn, .slice ad s.d.length cd] ∧ RowBut X q [.int .i64 c.link, .int .i64 c.ip, .int .i64 c.pp, .int .i64 c.po, .int .i64 c.st, .int .i64 c.una, .int .i64 c.nxt, .int .i64 c.win, .slice ao c.out.length co, .int .i64 c.rn, .slice ap PL.length cp, .bool c.cl, .bool c.tm.on, .int .i64 c.tm.left, .int .i64 c.tm.wait, .int .i64 c.tm.tries, .slice al SL.length cl] 16) (by kernel_rfl) 29 rfl ?_
 intro W11 s12
 have b13 := b6.trans (s12.mono (Nat.le_trans hBw b6.size))
 have r14 := r7.below s12
 have r15 := r4.below s12
 have f16 := (RowBut.below hqz10 s12)
 have f17 := (MO.below f8 s12)
 have f18 := (Kp.trans f9 (Kp.of_below s12))
 refine ⟨⟨b13, r15, f16⟩, ?_⟩
 refine fw_tq 0 rfl rfl ?_
 refine fw_tl 1 (fun _ h => h.2.1) rfl rfl rfl (by kernel_rfl) (fun _ _ _ _ _ h => h) ?_
 refine fw_tx 2 6 (.int .i64 (bits .and .i64 s.fl 1)) rfl rfl rfl rfl (fun a h W hW => by obtain ⟨b13, r15, f16⟩ := hW; exact (run_binOp (h.ev rfl) (h.ev rfl) (by simp [go_sem]) (andIw _ _ _))) (by kernel_rfl) (fun _ _ _ _ _ h => h) ?_
 refine fw_tx 3 7 (.bool (!(fb s.fl 1))) rfl rfl rfl rfl (fun a h W hW => by obtain ⟨b13, r15, f16⟩ := hW; exact (run_binOp (h.ev rfl) (h.ev rfl) (eqIntI _ _ _ _ _ _ _) (eqlIb _ _ _ _ (by simp [fb])))) (by kernel_rfl) (fun _ _ _ _ _ h => h) ?_
 refine fw_tq 4 rfl rfl ?_
 rcases Bool.eq_false_or_eq_true ((fb s.fl 1)) with hb_19 | hb_19
 ·skip
  refine fw_kh 8 rfl (not_of hb_19) ?_
  refine fw_tq 5 rfl rfl ?_
  refine fw_tl 6 (fun _ h => h.2.1) rfl rfl rfl (by kernel_rfl) (fun _ _ _ _ _ h => h) ?_
  refine fw_tq 7 rfl rfl ?_
  refine fw_tl 8 (fun _ h => h.2.1) rfl rfl rfl (by kernel_rfl) (fun _ _ _ _ _ h => h) ?_
  refine fw_tq 9 rfl rfl ?_
  refine fw_tq 11 rfl rfl ?_
  refine fw_tq 12 rfl rfl ?_
  refine fw_tq 13 rfl rfl ?_
  refine fw_tq 14 rfl rfl ?_
  refine fw_tq 15 rfl rfl ?_
  refine fw_lb 16 (fun _ h => h.2.2) rfl rfl rfl rfl (by kernel_rfl) (fun _ _ _ _ _ h => h) ?_
  refine fw_o1 10 (by kernel_rfl) ?_
  refine fw_ov (fun v X => v = (.int .i64 (addv s.sq ((s.d.length : Nat) : Int))) ∧ W11 = X) rfl Try.func54 rfl rfl rfl (((spanAdd_any s.sq ((s.d.length : Nat) : Int) W11)).mono fun e X h => ⟨_, h.1, rfl, h.2⟩) ?_
  rintro _ _ ⟨rfl, rfl⟩
  refine ⟨⟨b13, r15, f16⟩, ?_⟩
  refine fw_tq 17 rfl rfl ?_
  refine fw_tq 18 rfl rfl ?_
  refine fw_tq 19 rfl rfl ?_
  rcases Bool.eq_false_or_eq_true (((addv s.sq ((s.d.length : Nat) : Int)) == c.rn)) with hb_20 | hb_20
  ·skip
   refine fw_kh 23 rfl (not_of hb_20) ?_
   refine fw_tq 20 rfl rfl ?_
   refine fw_tq 21 rfl rfl ?_
   refine fw_tq 22 rfl rfl ?_
   refine fw_tq 23 rfl rfl ?_
   refine fw_tq 24 rfl rfl ?_
   refine fw_lb 25 (fun _ h => h.2.2) rfl rfl rfl rfl (by kernel_rfl) (fun _ _ _ _ _ h => h) ?_
   refine fw_tq 26 rfl rfl ?_
   refine fw_tq 27 rfl rfl ?_
   refine fw_tq 28 rfl rfl ?_
   refine fw_ht (by kernel_rfl) ?_
   refine fw_fg [(0, _), (32, _)] ⟨rfl, rfl, trivial⟩ ?_
   rcases Bool.eq_false_or_eq_true ((decide (0 < ((PL.length : Nat) : Int)))) with hb_21 | hb_21
   ·skip
    refine fw_cT rfl hb_21 ?_
    refine fw_rt ?_
    refine fw_tr ?_
    refine ⟨fun a h => ?_⟩
    exact bodyPost_ret (v := .tuple #[]) (by simp [results, Try.results93]) h.df ⟨rfl, (by have h0 := (Mch.subH (H := H) (Mch.mk (rf := false) (c := c) (T := T) r14 hps hsl f17) (fun k hk => by simp [hk])); have hpl : PL.length = c.ps.length := (by rw [← hps, List.length_map]); unfold finS; rw [hb_19, hb_20, Bool.true_and, Bool.true_and, decide_eq_false (by have h := hb_21; rw [decide_eq_true_eq] at h; omega), if_neg Bool.false_ne_true]; exact h0), f18, b13⟩
   refine fw_cF rfl hb_21 ?_
   refine fw_sk ?_
   refine fw_th ?_
   refine fw_sq ?_
   refine fw_rg rfl ?_
   iterate 6 refine fw_pu rfl ?_
   refine fw_ld r14 rfl rfl ?_
   refine fw_cv (fun v X => v = (.int .i64 (addv c.rn 1)) ∧ W11 = X) Try.func54 rfl rfl rfl (((spanAdd_any c.rn 1 W11)).mono fun e X h => ⟨_, h.1, rfl, h.2⟩) ?_
   rintro _ _ ⟨rfl, rfl⟩
   iterate 4 refine fw_pu rfl ?_
   refine fw_st r14 rfl rfl ?_
   intro W22 s23 r24
   have b25 := below_chg b13 s23 (by omega) (Nat.le_trans hBw b13.size)
   have f27 := (MO.chg f17 s23 (.inl rfl))
   have f28 := (Kp.chg f18 s23 hqH)
   refine fw_dt ?_
   refine fw_sq ?_
   refine fw_rg rfl ?_
   iterate 4 refine fw_pu rfl ?_
   refine fw_ld r24 rfl rfl ?_
   refine fw_dt ?_
   refine fw_bk ?_
   refine fw_sq ?_
   refine fw_rg rfl ?_
   iterate 2 refine fw_pu rfl ?_
   refine fw_dt ?_
   rcases Bool.eq_false_or_eq_true ((c.st == 2)) with hb_29 | hb_29
   ·skip
    refine fw_cT rfl hb_29 ?_
    refine fw_rg rfl ?_
    iterate 4 refine fw_pu rfl ?_
    refine fw_st r24 rfl rfl ?_
    intro W30 s31 r32
    have b33 := below_chg b25 s31 (by omega) (Nat.le_trans hBw b25.size)
    have f35 := (MO.chg f27 s31 (.inl rfl))
    have f36 := (Kp.chg f28 s31 hqH)
    refine fw_dn ?_
    refine fw_bn ?_
    refine ⟨fun a h => ?_⟩
    exact bodyPost_end (v := .tuple #[]) (by simp [results, Try.results93]) h.df ⟨rfl, (by have h0 := (Mch.subH (H := H) (Mch.mk (rf := false) (c := ({ c with st := 5, rn := (addv c.rn 1) } : EC)) (T := T) r32 hps hsl f35) (fun k hk => by simp [hk])); have hpl : PL.length = c.ps.length := (by rw [← hps, List.length_map]); unfold finS; rw [hb_19, hb_20, Bool.true_and, Bool.true_and, decide_eq_true (by have h := hb_21; rw [decide_eq_false_iff_not] at h; omega), if_pos rfl, if_pos (by have h := hb_29; simpa using h)]; exact h0), f36, b33⟩
   refine fw_cF rfl hb_29 ?_
   refine fw_sq ?_
   refine fw_rg rfl ?_
   iterate 2 refine fw_pu rfl ?_
   refine fw_dt ?_
   rcases Bool.eq_false_or_eq_true ((c.st == 3)) with hb_37 | hb_37
   ·skip
    refine fw_cT rfl hb_37 ?_
    refine fw_rg rfl ?_
    iterate 4 refine fw_pu rfl ?_
    refine fw_st r24 rfl rfl ?_
    intro W38 s39 r40
    have b41 := below_chg b25 s39 (by omega) (Nat.le_trans hBw b25.size)
    have f43 := (MO.chg f27 s39 (.inl rfl))
    have f44 := (Kp.chg f28 s39 hqH)
    refine fw_dn ?_
    refine fw_bn ?_
    refine ⟨fun a h => ?_⟩
    exact bodyPost_end (v := .tuple #[]) (by simp [results, Try.results93]) h.df ⟨rfl, (by have h0 := (Mch.subH (H := H) (Mch.mk (rf := false) (c := ({ c with st := 6, rn := (addv c.rn 1) } : EC)) (T := T) r40 hps hsl f43) (fun k hk => by simp [hk])); have hpl : PL.length = c.ps.length := (by rw [← hps, List.length_map]); unfold finS; rw [hb_19, hb_20, Bool.true_and, Bool.true_and, decide_eq_true (by have h := hb_21; rw [decide_eq_false_iff_not] at h; omega), if_pos rfl, if_neg (by have h := hb_29; simpa using h), if_pos (by have h := hb_37; simpa using h)]; exact h0), f44, b41⟩
   refine fw_cF rfl hb_37 ?_
   refine fw_sq ?_
   refine fw_rg rfl ?_
   iterate 2 refine fw_pu rfl ?_
   refine fw_dt ?_
   rcases Bool.eq_false_or_eq_true ((c.st == 4)) with hb_45 | hb_45
   ·skip
    refine fw_cT rfl hb_45 ?_
    refine fw_sq ?_
    refine fw_rg rfl ?_
    iterate 4 refine fw_pu rfl ?_
    refine fw_st r24 rfl rfl ?_
    intro W46 s47 r48
    have b49 := below_chg b25 s47 (by omega) (Nat.le_trans hBw b25.size)
    have f51 := (MO.chg f27 s47 (.inl rfl))
    have f52 := (Kp.chg f28 s47 hqH)
    refine fw_dt ?_
    refine fw_rg rfl ?_
    refine fw_pu rfl ?_
    refine fw_ca Try.func70 rfl rfl rfl ((cstart_any (n := 20) (Mch.mk (rf := false) (c := ({ c with st := 8, rn := (addv c.rn 1) } : EC)) (T := T) r48 hps hsl f51) (by decide) (by decide))) ?_
    rintro _ V53 ⟨rfl, hMz54, hKz54, hBz54⟩
    refine ⟨_, rfl, ?_⟩
    obtain ⟨c55, hc55⟩ : ∃ x, x = ({ ({ c with st := 8, rn := (addv c.rn 1) } : EC) with tm := tmS 20 } : EC) := ⟨_, rfl⟩
    rw [← hc55] at hMz54
    obtain ⟨aoz54, coz54, apz54, PLz54, cpz54, alz54, SLz54, clz54, hrz54, hpsz54, hslz54, hmoz54⟩ := Mch.opn hMz54
    have b56 := (b49.trans hBz54)
    have r57 := hrz54
    have f59 := hmoz54
    have f60 := (Kp.trans f52 (Kp.sub hKz54 (fun k hk => by simp [hk])))
    refine fw_dn ?_
    refine fw_bn ?_
    refine ⟨fun a h => ?_⟩
    exact bodyPost_end (v := .tuple #[]) (by simp [results, Try.results93]) h.df ⟨rfl, (by have h0 := (Mch.subH (H := H) (Mch.mk (rf := false) (c := c55) (T := T) r57 hpsz54 hslz54 f59) (fun k hk => by simp [hk])); simp only [hc55] at h0; have hpl : PL.length = c.ps.length := (by rw [← hps, List.length_map]); unfold finS; rw [hb_19, hb_20, Bool.true_and, Bool.true_and, decide_eq_true (by have h := hb_21; rw [decide_eq_false_iff_not] at h; omega), if_pos rfl, if_neg (by have h := hb_29; simpa using h), if_neg (by have h := hb_37; simpa using h), if_pos (by have h := hb_45; simpa using h)]; exact h0), f60, b56⟩
   refine fw_cF rfl hb_45 ?_
   refine fw_sk ?_
   refine fw_bn ?_
   refine ⟨fun a h => ?_⟩
   exact bodyPost_end (v := .tuple #[]) (by simp [results, Try.results93]) h.df ⟨rfl, (by have h0 := (Mch.subH (H := H) (Mch.mk (rf := false) (c := ({ c with rn := (addv c.rn 1) } : EC)) (T := T) r24 hps hsl f27) (fun k hk => by simp [hk])); have hpl : PL.length = c.ps.length := (by rw [← hps, List.length_map]); unfold finS; rw [hb_19, hb_20, Bool.true_and, Bool.true_and, decide_eq_true (by have h := hb_21; rw [decide_eq_false_iff_not] at h; omega), if_pos rfl, if_neg (by have h := hb_29; simpa using h), if_neg (by have h := hb_37; simpa using h), if_neg (by have h := hb_45; simpa using h)]; exact h0), f28, b25⟩
  refine fw_kh 23 rfl (not_of hb_20) ?_
  refine fw_tq 20 rfl rfl ?_
  refine fw_tq 21 rfl rfl ?_
  refine fw_tq 22 rfl rfl ?_
  refine fw_tq 23 rfl rfl ?_
  refine fw_tq 24 rfl rfl ?_
  refine fw_tq 25 rfl rfl ?_
  refine fw_tq 26 rfl rfl ?_
  refine fw_tq 27 rfl rfl ?_
  refine fw_tq 28 rfl rfl ?_
  refine fw_ht (by kernel_rfl) ?_
  refine fw_fg [(0, _), (32, _)] ⟨rfl, rfl, trivial⟩ ?_
  refine fw_cT rfl rfl ?_
  refine fw_rt ?_
  refine fw_tr ?_
  refine ⟨fun a h => ?_⟩
  exact bodyPost_ret (v := .tuple #[]) (by simp [results, Try.results93]) h.df ⟨rfl, (by have h0 := (Mch.subH (H := H) (Mch.mk (rf := false) (c := c) (T := T) r14 hps hsl f17) (fun k hk => by simp [hk])); unfold finS; rw [hb_19, hb_20, Bool.false_and, Bool.true_and, if_neg Bool.false_ne_true]; exact h0), f18, b13⟩
 refine fw_kh 8 rfl (not_of hb_19) ?_
 refine fw_tq 5 rfl rfl ?_
 refine fw_tq 6 rfl rfl ?_
 refine fw_tq 7 rfl rfl ?_
 refine fw_tq 8 rfl rfl ?_
 refine fw_tq 9 rfl rfl ?_
 refine fw_tq 10 rfl rfl ?_
 refine fw_tq 11 rfl rfl ?_
 refine fw_tq 12 rfl rfl ?_
 refine fw_tq 13 rfl rfl ?_
 refine fw_tq 14 rfl rfl ?_
 refine fw_tq 15 rfl rfl ?_
 refine fw_tq 16 rfl rfl ?_
 refine fw_tq 17 rfl rfl ?_
 refine fw_tq 18 rfl rfl ?_
 refine fw_tq 19 rfl rfl ?_
 refine fw_tq 20 rfl rfl ?_
 refine fw_tq 21 rfl rfl ?_
 refine fw_tq 22 rfl rfl ?_
 refine fw_tq 23 rfl rfl ?_
 refine fw_tq 24 rfl rfl ?_
 refine fw_tq 25 rfl rfl ?_
 refine fw_tq 26 rfl rfl ?_
 refine fw_tq 27 rfl rfl ?_
 refine fw_tq 28 rfl rfl ?_
 refine fw_ht (by kernel_rfl) ?_
 refine fw_fg [(0, _), (32, _)] ⟨rfl, rfl, trivial⟩ ?_
 refine fw_cT rfl rfl ?_
 refine fw_rt ?_
 refine fw_tr ?_
 refine ⟨fun a h => ?_⟩
 exact bodyPost_ret (v := .tuple #[]) (by simp [results, Try.results93]) h.df ⟨rfl, (by have h0 := (Mch.subH (H := H) (Mch.mk (rf := false) (c := c) (T := T) r14 hps hsl f17) (fun k hk => by simp [hk])); unfold finS; rw [hb_19, Bool.false_and, if_neg Bool.false_ne_true]; exact h0), f18, b13⟩
set_option maxRecDepth 100000 in
set_option maxHeartbeats 4000000 in
theorem ackd_any {B q : Nat} {H : List Nat} {c : EC} {l : List ES} {T : Td} {w : World} {s : ES} {ad : Option Addr} {cd : Nat} (hM : Mch B H q false c l T w) (hl5 : l.length ≤ 100000) (hol : c.out.length ≤ 100000) :
    Does 91 #[.pointer (some ⟨q, 0, none⟩), .agg #[.int .i64 s.sp, .int .i64 s.dp, .int .i64 s.sq, .int .i64 s.ak, .int .i64 s.fl, .int .i64 s.wn, .slice ad s.d.length cd]] B H q false (.bool (ackB c s)) (ackC c s) (ackL c l s) T w := by
 obtain ⟨ao, co, ap, PL, cp, al, SL, cl, hr, hps, hsl, hmo⟩ := hM.opn
 have hBw : B ≤ w.heap.size := hmo.facts.2.1
 have hBq : B ≤ q := hmo.facts.1
 have hqw : q < w.heap.size := hmo.facts.2.2.1
 have hqH : q ∉ H := hmo.facts.2.2.2.1
 have HHlt := Lib.hid hmo.facts.2.2.2.2.1
 have hkp := Kp.refl H w
 have hb0 := Below.refl B w
 replace hr : RowAt w q [.int .i64 c.link, .int .i64 c.ip, .int .i64 c.pp, .int .i64 c.po, .int .i64 c.st, .int .i64 c.una, .int .i64 c.nxt, .int .i64 c.win, .slice ao c.out.length co, .int .i64 c.rn, .slice ap PL.length cp, .bool c.cl, .bool c.tm.on, .int .i64 c.tm.left, .int .i64 c.tm.wait, .int .i64 c.tm.tries, .slice al SL.length cl] := hr
 have hSl : SL.length ≤ 100000 := by rw [← hsl, List.length_map] at hl5; exact hl5
 unfold Does
 refine fw_en 116 [(0, .pointer (some ⟨q, 0, none⟩)), (1, .agg #[.int .i64 s.sp, .int .i64 s.dp, .int .i64 s.sq, .int .i64 s.ak, .int .i64 s.fl, .int .i64 s.wn, .slice ad s.d.length cd])] Try.func91 rfl Try.ntmps91 rfl ⟨rfl, rfl, trivial⟩ ?_
 refine fw_sq ?_
 refine fw_rg rfl ?_
 refine fw_bx rfl (cs := [.int .i64 s.sp, .int .i64 s.dp, .int .i64 s.sq, .int .i64 s.ak, .int .i64 s.fl, .int .i64 s.wn, .slice ad s.d.length cd]) rfl ?_
 intro q1 W2 g5 s3 r4
 have := Nat.le_trans (Nat.le_trans hBw hb0.size) g5
 have := hr.lt g5
 have hnH_q1 : q1 ∉ H := fun hk => by have h0 := HHlt.out q1 hk; have h1 := hkp.size; omega
 have b6 := hb0.trans (s3.mono (Nat.le_trans hBw hb0.size))
 have r7 := hr.below s3
 have f8 := (MO.hold hmo s3 g5 r4.2.2)
 have f9 := (Kp.trans hkp (Kp.of_below s3))
 refine fw_pu rfl ?_
 refine fw_dt ?_
 refine fw_sq ?_
 refine fw_sq ?_
 refine fw_rg rfl ?_
 iterate 4 refine fw_pu rfl ?_
 refine fw_ld r7 rfl rfl ?_
 refine fw_pu rfl ?_
 refine fw_dt ?_
 rcases Bool.eq_false_or_eq_true ((c.st == 1)) with hb_10 | hb_10
 ·skip
  refine fw_cT rfl hb_10 ?_
  refine fw_sq ?_
  refine fw_sq ?_
  refine fw_hr (fun X => Below B w X ∧ RowAt X q [.int .i64 c.link, .int .i64 c.ip, .int .i64 c.pp, .int .i64 c.po, .int .i64 c.st, .int .i64 c.una, .int .i64 c.nxt, .int .i64 c.win, .slice ao c.out.length co, .int .i64 c.rn, .slice ap PL.length cp, .bool c.cl, .bool c.tm.on, .int .i64 c.tm.left, .int .i64 c.tm.wait, .int .i64 c.tm.tries, .slice al SL.length cl] ∧ RowAt X q1 [.int .i64 s.sp, .int .i64 s.dp, .int .i64 s.sq, .int .i64 s.ak, .int .i64 s.fl, .int .i64 s.wn, .slice ad s.d.length cd] ∧ MO B (q1 :: H) q (.slice ao c.out.length co) (.slice ap PL.length cp) (.slice al SL.length cl) (T.v) PL SL c.out T.b X ∧ Kp H w X) (by kernel_rfl) 8 rfl ?_
  intro W11 s12
  have b13 := b6.trans (s12.mono (Nat.le_trans hBw b6.size))
  have r14 := r7.below s12
  have r15 := r4.below s12
  have f16 := (MO.below f8 s12)
  have f17 := (Kp.trans f9 (Kp.of_below s12))
  refine ⟨⟨b13, r14, r15, f16, f17⟩, ?_⟩
  refine fw_tq 0 rfl rfl ?_
  refine fw_tl 1 (fun _ h => h.2.2.1) rfl rfl rfl (by kernel_rfl) (fun _ _ _ _ _ h => h) ?_
  refine fw_tq 2 rfl rfl ?_
  refine fw_tq 3 rfl rfl ?_
  refine fw_tq 4 rfl rfl ?_
  refine fw_tq 5 rfl rfl ?_
  refine fw_tl 6 (fun _ h => h.2.1) rfl rfl rfl (by kernel_rfl) (fun _ _ _ _ _ h => h) ?_
  refine fw_tq 7 rfl rfl ?_
  refine fw_ht (by kernel_rfl) ?_
  rcases Bool.eq_false_or_eq_true ((s.ak == c.nxt)) with hb_18 | hb_18
  ·skip
   refine fw_cF rfl (not_of hb_18) ?_
   refine fw_sk ?_
   refine fw_th ?_
   refine fw_sq ?_
   refine fw_rg rfl ?_
   iterate 7 refine fw_pu rfl ?_
   refine fw_ld r14 rfl rfl ?_
   refine fw_ex 50 (.agg #[.bool false, .int .i64 0, .int .i64 0, .int .i64 0]) rfl rfl rfl (fun a h => (run_buildOp (vs := #[]) (by simp) (by kernel_rfl))) ?_
   iterate 3 refine fw_pu rfl ?_
   refine fw_st r14 rfl rfl ?_
   intro W19 s20 r21
   have b22 := below_chg b13 s20 (by omega) (Nat.le_trans hBw b13.size)
   have f24 := (MO.chg f16 s20 (.inl rfl))
   have f25 := (Kp.chg f17 s20 hqH)
   iterate 3 refine fw_pu rfl ?_
   refine fw_st r21 rfl rfl ?_
   intro W26 s27 r28
   have b29 := below_chg b22 s27 (by omega) (Nat.le_trans hBw b22.size)
   have f31 := (MO.chg f24 s27 (.inl rfl))
   have f32 := (Kp.chg f25 s27 hqH)
   iterate 3 refine fw_pu rfl ?_
   refine fw_st r28 rfl rfl ?_
   intro W33 s34 r35
   have b36 := below_chg b29 s34 (by omega) (Nat.le_trans hBw b29.size)
   have f38 := (MO.chg f31 s34 (.inl rfl))
   have f39 := (Kp.chg f32 s34 hqH)
   refine fw_dt ?_
   refine fw_fg [(4, _)] ⟨rfl, trivial⟩ ?_
   refine fw_sq ?_
   refine fw_rg rfl ?_
   refine fw_pu rfl ?_
   refine fw_dt ?_
   refine fw_rt ?_
   refine fw_tr ?_
   refine ⟨fun a h => ?_⟩
   exact ow_ret1 rfl h.df (h.g 4 rfl) ⟨by unfold ackB; rw [if_pos (by have h := hb_10; simpa using h), hb_18], (by have h0 := (Mch.subH (H := H) (Mch.mk (rf := false) (c := ({ c with st := 2, una := c.nxt, tm := tm0 } : EC)) (T := T) r35 hps hsl f38) (fun k hk => by simp [hk])); unfold ackC ackL; rw [if_pos (by have h := hb_10; simpa using h), if_pos hb_18, if_pos (by have h := hb_10; simpa using h), if_pos hb_18]; exact h0), f39, b36⟩
  refine fw_cT rfl (not_of hb_18) ?_
  refine fw_sq ?_
  have hqz40 := RowBut.of (k := 16) r14 rfl
  refine fw_hr (fun X => Below B w X ∧ RowAt X q1 [.int .i64 s.sp, .int .i64 s.dp, .int .i64 s.sq, .int .i64 s.ak, .int .i64 s.fl, .int .i64 s.wn, .slice ad s.d.length cd] ∧ RowBut X q [.int .i64 c.link, .int .i64 c.ip, .int .i64 c.pp, .int .i64 c.po, .int .i64 c.st, .int .i64 c.una, .int .i64 c.nxt, .int .i64 c.win, .slice ao c.out.length co, .int .i64 c.rn, .slice ap PL.length cp, .bool c.cl, .bool c.tm.on, .int .i64 c.tm.left, .int .i64 c.tm.wait, .int .i64 c.tm.tries, .slice al SL.length cl] 16) (by kernel_rfl) 23 rfl ?_
  intro W41 s42
  have b43 := b13.trans (s42.mono (Nat.le_trans hBw b13.size))
  have r44 := r14.below s42
  have r45 := r15.below s42
  have f46 := (RowBut.below hqz40 s42)
  have f47 := (MO.below f16 s42)
  have f48 := (Kp.trans f17 (Kp.of_below s42))
  refine ⟨⟨b43, r45, f46⟩, ?_⟩
  refine fw_tq 0 rfl rfl ?_
  refine fw_tq 1 rfl rfl ?_
  refine fw_tq 2 rfl rfl ?_
  refine fw_tq 3 rfl rfl ?_
  refine fw_tq 5 rfl rfl ?_
  refine fw_tq 6 rfl rfl ?_
  refine fw_tq 7 rfl rfl ?_
  refine fw_tq 8 rfl rfl ?_
  refine fw_lb 9 (fun _ h => h.2.2) rfl rfl rfl rfl (by kernel_rfl) (fun _ _ _ _ _ h => h) ?_
  refine fw_tq 10 rfl rfl ?_
  refine fw_tq 11 rfl rfl ?_
  refine fw_tq 12 rfl rfl ?_
  refine fw_tq 13 rfl rfl ?_
  refine fw_lb 14 (fun _ h => h.2.2) rfl rfl rfl rfl (by kernel_rfl) (fun _ _ _ _ _ h => h) ?_
  refine fw_tq 15 rfl rfl ?_
  refine fw_tl 16 (fun _ h => h.2.1) rfl rfl rfl (by kernel_rfl) (fun _ _ _ _ _ h => h) ?_
  refine fw_tx 17 37 (.agg #[.int .i64 c.po, .int .i64 c.pp, .int .i64 s.ak, .int .i64 0, .int .i64 4, .int .i64 0, .slice none 0 0]) rfl rfl rfl rfl (fun a h W hW => by obtain ⟨b43, r45, f46⟩ := hW; exact (run_buildOp (bp4 (h.ev rfl) (h.ev rfl) (h.ev rfl) (h.ev rfl)) (by first | kernel_rfl | rfl))) (by kernel_rfl) (fun _ _ _ _ _ h => h) ?_
  refine fw_o2 4 18 (by kernel_rfl) ?_ ?_
  ·skip
   refine fw_ol rfl r44 rfl rfl ?_
   refine fw_o1 18 (by kernel_rfl) ?_
   refine fw_oa rfl (t := 70) (u := fun q => .slice (some ⟨q, 0, none⟩) 1 1) 38 (ES.row (⟨c.po, c.pp, s.ak, 0, 4, 0, []⟩ : ES) (.slice none 0 0)) rfl rfl rfl (fun a h => (bsSeg (⟨c.po, c.pp, s.ak, 0, 4, 0, []⟩ : ES) _ (h.ev rfl))) ?_
   intro q49 W50 g53 s51 r52
   have := Nat.le_trans (Nat.le_trans hBw b43.size) g53
   have := r44.lt g53
   have := r45.lt g53
   have hnH_q49 : q49 ∉ H := fun hk => by have h0 := HHlt.out q49 hk; have h1 := f48.size; omega
   have b54 := b43.trans (s51.mono (Nat.le_trans hBw b43.size))
   have r55 := r44.below s51
   have r56 := r45.below s51
   have f57 := (RowBut.below f46 s51)
   have f58 := (MO.hold f47 s51 g53 r52.2.2)
   have f59 := (Kp.trans f48 (Kp.of_below s51))
   refine ⟨⟨b54, r56, f57⟩, ?_⟩
   refine fw_o1 19 (by kernel_rfl) ?_
   have hmo2 := f58
   obtain ⟨col, hcol⟩ := id hmo2
   refine fw_ot rfl 39 rfl rfl rfl (fun a h => (opTo_seg _ _ rfl (h.ev rfl) hcol.s.row (h.ev rfl) r52 rfl hSl (Nat.le_trans hBw f59.size))) ?_
   rintro vl2 V60 ⟨hgr, hog⟩
   obtain ⟨al2, cl2, rfl⟩ := own_slice hog
   have hSLB : ∀ k, (.slice al SL.length cl : Value).ownBlock = some k → B ≤ k ∧ k ≠ q ∧ k ∉ (q49 :: q1 :: H) := fun k hk => ⟨(blk_lt hcol.s.row hk).1, fun e => by have h0 := hcol.sc k (.inl hk); have h1 := hcol.hq; rw [e] at h0; omega, fun e => by have h0 := hcol.sc k (.inl hk); have h1 := (hcol.hH k e).2; omega⟩
   have hbN := (b54.trans (grew_low hgr (Nat.le_trans hBw f59.size) (fun k hk => (hSLB k hk).1)))
   have hkN : Kp H w V60 := Kp.trans f59 ⟨hgr.1.size, fun k hk hl => hgr.1.block k hl (fun e => (hSLB k e.symm).2.2 (by simp [hk]))⟩
   have hmoN := MO.send (s := (⟨c.po, c.pp, s.ak, 0, 4, 0, []⟩ : ES)) hmo2 (Below.refl _ _) (World.ownsRow_nil _ _ _ _) hog hgr (Nat.le_trans hBw f59.size)
   have rN61 := (rowAt_keep r55 hgr.1 (fun e => (hSLB _ e.symm).2.1 rfl))
   have rN62 := (rowAt_keep r56 hgr.1 (fun e => (hSLB _ e.symm).2.2 (by simp)))
   have hqN : RowBut V60 q [.int .i64 c.link, .int .i64 c.ip, .int .i64 c.pp, .int .i64 c.po, .int .i64 c.st, .int .i64 c.una, .int .i64 c.nxt, .int .i64 c.win, .slice ao c.out.length co, .int .i64 c.rn, .slice ap PL.length cp, .bool c.cl, .bool c.tm.on, .int .i64 c.tm.left, .int .i64 c.tm.wait, .int .i64 c.tm.tries, .slice al SL.length cl] 16 := ⟨_, rN61⟩
   refine ⟨⟨hbN, rN62, hqN⟩, ?_⟩
   refine fw_tq 20 rfl rfl ?_
   refine fw_tq 21 rfl rfl ?_
   refine fw_o1 22 (by kernel_rfl) ?_
   refine fw_os rfl rN61 rfl rfl ?_
   intro W63 s64 r65
   have b66 := below_chg hbN s64 (by omega) (Nat.le_trans hBw hbN.size)
   have r67 := rN62.chg s64 (by omega)
   have f68 := (RowBut.set r65 rfl)
   have f69 := (MO.chg hmoN s64 (.inl rfl))
   have f70 := (Kp.chg hkN s64 hqH)
   refine ⟨⟨b66, r67, f68⟩, ?_⟩
   refine fw_ht (by kernel_rfl) ?_
   refine fw_fg [(4, _)] ⟨rfl, trivial⟩ ?_
   refine fw_sq ?_
   refine fw_rg rfl ?_
   refine fw_pu rfl ?_
   refine fw_dt ?_
   refine fw_rt ?_
   iterate 2 refine fw_tr ?_
   refine ⟨fun a h => ?_⟩
   exact ow_ret1 rfl h.df (h.g 4 rfl) ⟨by unfold ackB; rw [if_pos (by have h := hb_10; simpa using h), hb_18], (by have h0 := Mch.subH (H := H) (Mch.mk (rf := false) (c := c) (T := T) (al := al2) (cl := cl2) (SL := SL ++ [((⟨c.po, c.pp, s.ak, 0, 4, 0, []⟩ : ES), (.slice none 0 0 : Value))]) (by rw [List.length_append, List.length_singleton]; exact r65) hps (by rw [List.map_append, hsl, List.map_cons, List.map_nil]) (by rw [List.length_append, List.length_singleton]; exact f69)) (fun k hk => by simp [hk]); unfold ackC ackL; rw [if_pos (by have h := hb_10; simpa using h), if_neg (by rw [hb_18]; exact Bool.false_ne_true), if_pos (by have h := hb_10; simpa using h), if_neg (by rw [hb_18]; exact Bool.false_ne_true)]; exact h0), f70, b66⟩
  refine fw_oa rfl (t := 70) (u := fun q => .slice (some ⟨q, 0, none⟩) 1 1) 38 (ES.row (⟨c.po, c.pp, s.ak, 0, 4, 0, []⟩ : ES) (.slice none 0 0)) rfl rfl rfl (fun a h => (bsSeg (⟨c.po, c.pp, s.ak, 0, 4, 0, []⟩ : ES) _ (h.ev rfl))) ?_
  intro q71 W72 g75 s73 r74
  have := Nat.le_trans (Nat.le_trans hBw b43.size) g75
  have := r44.lt g75
  have := r45.lt g75
  have hnH_q71 : q71 ∉ H := fun hk => by have h0 := HHlt.out q71 hk; have h1 := f48.size; omega
  have b76 := b43.trans (s73.mono (Nat.le_trans hBw b43.size))
  have r77 := r44.below s73
  have r78 := r45.below s73
  have f79 := (RowBut.below f46 s73)
  have f80 := (MO.hold f47 s73 g75 r74.2.2)
  have f81 := (Kp.trans f48 (Kp.of_below s73))
  refine ⟨⟨b76, r78, f79⟩, ?_⟩
  refine fw_o1 4 (by kernel_rfl) ?_
  refine fw_ol rfl r77 rfl rfl ?_
  refine fw_o1 19 (by kernel_rfl) ?_
  have hmo2 := f80
  obtain ⟨col, hcol⟩ := id hmo2
  refine fw_ot rfl 39 rfl rfl rfl (fun a h => (opTo_seg _ _ rfl (h.ev rfl) hcol.s.row (h.ev rfl) r74 rfl hSl (Nat.le_trans hBw f81.size))) ?_
  rintro vl2 V82 ⟨hgr, hog⟩
  obtain ⟨al2, cl2, rfl⟩ := own_slice hog
  have hSLB : ∀ k, (.slice al SL.length cl : Value).ownBlock = some k → B ≤ k ∧ k ≠ q ∧ k ∉ (q71 :: q1 :: H) := fun k hk => ⟨(blk_lt hcol.s.row hk).1, fun e => by have h0 := hcol.sc k (.inl hk); have h1 := hcol.hq; rw [e] at h0; omega, fun e => by have h0 := hcol.sc k (.inl hk); have h1 := (hcol.hH k e).2; omega⟩
  have hbN := (b76.trans (grew_low hgr (Nat.le_trans hBw f81.size) (fun k hk => (hSLB k hk).1)))
  have hkN : Kp H w V82 := Kp.trans f81 ⟨hgr.1.size, fun k hk hl => hgr.1.block k hl (fun e => (hSLB k e.symm).2.2 (by simp [hk]))⟩
  have hmoN := MO.send (s := (⟨c.po, c.pp, s.ak, 0, 4, 0, []⟩ : ES)) hmo2 (Below.refl _ _) (World.ownsRow_nil _ _ _ _) hog hgr (Nat.le_trans hBw f81.size)
  have rN83 := (rowAt_keep r77 hgr.1 (fun e => (hSLB _ e.symm).2.1 rfl))
  have rN84 := (rowAt_keep r78 hgr.1 (fun e => (hSLB _ e.symm).2.2 (by simp)))
  have hqN : RowBut V82 q [.int .i64 c.link, .int .i64 c.ip, .int .i64 c.pp, .int .i64 c.po, .int .i64 c.st, .int .i64 c.una, .int .i64 c.nxt, .int .i64 c.win, .slice ao c.out.length co, .int .i64 c.rn, .slice ap PL.length cp, .bool c.cl, .bool c.tm.on, .int .i64 c.tm.left, .int .i64 c.tm.wait, .int .i64 c.tm.tries, .slice al SL.length cl] 16 := ⟨_, rN83⟩
  refine ⟨⟨hbN, rN84, hqN⟩, ?_⟩
  refine fw_tq 20 rfl rfl ?_
  refine fw_tq 21 rfl rfl ?_
  refine fw_o1 22 (by kernel_rfl) ?_
  refine fw_os rfl rN83 rfl rfl ?_
  intro W85 s86 r87
  have b88 := below_chg hbN s86 (by omega) (Nat.le_trans hBw hbN.size)
  have r89 := rN84.chg s86 (by omega)
  have f90 := (RowBut.set r87 rfl)
  have f91 := (MO.chg hmoN s86 (.inl rfl))
  have f92 := (Kp.chg hkN s86 hqH)
  refine ⟨⟨b88, r89, f90⟩, ?_⟩
  refine fw_ht (by kernel_rfl) ?_
  refine fw_fg [(4, _)] ⟨rfl, trivial⟩ ?_
  refine fw_sq ?_
  refine fw_rg rfl ?_
  refine fw_pu rfl ?_
  refine fw_dt ?_
  refine fw_rt ?_
  iterate 2 refine fw_tr ?_
  refine ⟨fun a h => ?_⟩
  exact ow_ret1 rfl h.df (h.g 4 rfl) ⟨by unfold ackB; rw [if_pos (by have h := hb_10; simpa using h), hb_18], (by have h0 := Mch.subH (H := H) (Mch.mk (rf := false) (c := c) (T := T) (al := al2) (cl := cl2) (SL := SL ++ [((⟨c.po, c.pp, s.ak, 0, 4, 0, []⟩ : ES), (.slice none 0 0 : Value))]) (by rw [List.length_append, List.length_singleton]; exact r87) hps (by rw [List.map_append, hsl, List.map_cons, List.map_nil]) (by rw [List.length_append, List.length_singleton]; exact f91)) (fun k hk => by simp [hk]); unfold ackC ackL; rw [if_pos (by have h := hb_10; simpa using h), if_neg (by rw [hb_18]; exact Bool.false_ne_true), if_pos (by have h := hb_10; simpa using h), if_neg (by rw [hb_18]; exact Bool.false_ne_true)]; exact h0), f92, b88⟩
 refine fw_cF rfl hb_10 ?_
 refine fw_sk ?_
 refine fw_th ?_
 refine fw_sq ?_
 refine fw_sq ?_
 refine fw_hr (fun X => Below B w X ∧ RowAt X q [.int .i64 c.link, .int .i64 c.ip, .int .i64 c.pp, .int .i64 c.po, .int .i64 c.st, .int .i64 c.una, .int .i64 c.nxt, .int .i64 c.win, .slice ao c.out.length co, .int .i64 c.rn, .slice ap PL.length cp, .bool c.cl, .bool c.tm.on, .int .i64 c.tm.left, .int .i64 c.tm.wait, .int .i64 c.tm.tries, .slice al SL.length cl] ∧ RowAt X q1 [.int .i64 s.sp, .int .i64 s.dp, .int .i64 s.sq, .int .i64 s.ak, .int .i64 s.fl, .int .i64 s.wn, .slice ad s.d.length cd] ∧ MO B (q1 :: H) q (.slice ao c.out.length co) (.slice ap PL.length cp) (.slice al SL.length cl) (T.v) PL SL c.out T.b X ∧ Kp H w X) (by kernel_rfl) 9 rfl ?_
 intro W93 s94
 have b95 := b6.trans (s94.mono (Nat.le_trans hBw b6.size))
 have r96 := r7.below s94
 have r97 := r4.below s94
 have f98 := (MO.below f8 s94)
 have f99 := (Kp.trans f9 (Kp.of_below s94))
 refine ⟨⟨b95, r96, r97, f98, f99⟩, ?_⟩
 refine fw_tq 0 rfl rfl ?_
 refine fw_tl 1 (fun _ h => h.2.2.1) rfl rfl rfl (by kernel_rfl) (fun _ _ _ _ _ h => h) ?_
 refine fw_tq 2 rfl rfl ?_
 refine fw_tq 3 rfl rfl ?_
 refine fw_tq 4 rfl rfl ?_
 refine fw_tq 5 rfl rfl ?_
 refine fw_tl 6 (fun _ h => h.2.1) rfl rfl rfl (by kernel_rfl) (fun _ _ _ _ _ h => h) ?_
 refine fw_o1 7 (by kernel_rfl) ?_
 refine fw_ov (fun v X => v = (.int .i64 (diffv s.ak c.nxt)) ∧ W93 = X) rfl Try.func49 rfl rfl rfl (((spanDiff_any s.ak c.nxt W93)).mono fun e X h => ⟨_, h.1, rfl, h.2⟩) ?_
 rintro _ _ ⟨rfl, rfl⟩
 refine ⟨⟨b95, r96, r97, f98, f99⟩, ?_⟩
 refine fw_tq 8 rfl rfl ?_
 refine fw_ht (by kernel_rfl) ?_
 rcases Bool.eq_false_or_eq_true ((decide (0 < (diffv s.ak c.nxt)))) with hb_100 | hb_100
 ·skip
  refine fw_cT rfl hb_100 ?_
  refine fw_sq ?_
  refine fw_rg rfl ?_
  refine fw_pu rfl ?_
  refine fw_ca Try.func90 rfl rfl rfl ((cack_any (Mch.mk (rf := false) (c := c) (T := T) r96 hps hsl f98) hl5)) ?_
  rintro _ V101 ⟨rfl, hMz102, hKz102, hBz102⟩
  refine ⟨_, rfl, ?_⟩
  obtain ⟨l103, hl103⟩ : ∃ x, x = (ackN c l) := ⟨_, rfl⟩
  rw [← hl103] at hMz102
  obtain ⟨aoz102, coz102, apz102, PLz102, cpz102, alz102, SLz102, clz102, hrz102, hpsz102, hslz102, hmoz102⟩ := Mch.opn hMz102
  have b104 := (b95.trans hBz102)
  have r105 := hrz102
  have f107 := hmoz102
  have f108 := (Kp.trans f99 (Kp.sub hKz102 (fun k hk => by simp [hk])))
  refine fw_dt ?_
  refine fw_sq ?_
  refine fw_rg rfl ?_
  refine fw_pu rfl ?_
  refine fw_dt ?_
  refine fw_rt ?_
  refine fw_tr ?_
  refine ⟨fun a h => ?_⟩
  exact ow_ret1 rfl h.df (h.g 4 rfl) ⟨by unfold ackB; rw [if_neg (by have h := hb_10; simpa using h), hb_100]; rfl, (by have h0 := (Mch.subH (H := H) (Mch.mk (rf := false) (c := c) (T := T) r105 hpsz102 hslz102 f107) (fun k hk => by simp [hk])); simp only [hl103] at h0; unfold ackC ackL; rw [if_neg (by have h := hb_10; simpa using h), if_pos (of_decide_eq_true hb_100), if_neg (by have h := hb_10; simpa using h), if_pos (of_decide_eq_true hb_100)]; exact h0), f108, b104⟩
 refine fw_cF rfl hb_100 ?_
 refine fw_sk ?_
 refine fw_th ?_
 refine fw_sq ?_
 refine fw_sq ?_
 refine fw_hr (fun X => Below B w X ∧ RowAt X q [.int .i64 c.link, .int .i64 c.ip, .int .i64 c.pp, .int .i64 c.po, .int .i64 c.st, .int .i64 c.una, .int .i64 c.nxt, .int .i64 c.win, .slice ao c.out.length co, .int .i64 c.rn, .slice ap PL.length cp, .bool c.cl, .bool c.tm.on, .int .i64 c.tm.left, .int .i64 c.tm.wait, .int .i64 c.tm.tries, .slice al SL.length cl] ∧ RowAt X q1 [.int .i64 s.sp, .int .i64 s.dp, .int .i64 s.sq, .int .i64 s.ak, .int .i64 s.fl, .int .i64 s.wn, .slice ad s.d.length cd] ∧ MO B (q1 :: H) q (.slice ao c.out.length co) (.slice ap PL.length cp) (.slice al SL.length cl) (T.v) PL SL c.out T.b X ∧ Kp H w X) (by kernel_rfl) 9 rfl ?_
 intro W109 s110
 have b111 := b95.trans (s110.mono (Nat.le_trans hBw b95.size))
 have r112 := r96.below s110
 have r113 := r97.below s110
 have f114 := (MO.below f98 s110)
 have f115 := (Kp.trans f99 (Kp.of_below s110))
 refine ⟨⟨b111, r112, r113, f114, f115⟩, ?_⟩
 refine fw_tq 0 rfl rfl ?_
 refine fw_tl 1 (fun _ h => h.2.2.1) rfl rfl rfl (by kernel_rfl) (fun _ _ _ _ _ h => h) ?_
 refine fw_tq 2 rfl rfl ?_
 refine fw_tq 3 rfl rfl ?_
 refine fw_tq 4 rfl rfl ?_
 refine fw_tq 5 rfl rfl ?_
 refine fw_tl 6 (fun _ h => h.2.1) rfl rfl rfl (by kernel_rfl) (fun _ _ _ _ _ h => h) ?_
 refine fw_o1 7 (by kernel_rfl) ?_
 refine fw_ov (fun v X => v = (.int .i64 (diffv s.ak c.una)) ∧ W109 = X) rfl Try.func49 rfl rfl rfl (((spanDiff_any s.ak c.una W109)).mono fun e X h => ⟨_, h.1, rfl, h.2⟩) ?_
 rintro _ _ ⟨rfl, rfl⟩
 refine ⟨⟨b111, r112, r113, f114, f115⟩, ?_⟩
 refine fw_tq 8 rfl rfl ?_
 refine fw_ht (by kernel_rfl) ?_
 refine fw_sq ?_
 refine fw_rg rfl ?_
 iterate 2 refine fw_pu rfl ?_
 refine fw_dt ?_
 refine fw_fg [(0, _), (3, _), (4, _), (5, _), (80, _)] ⟨rfl, rfl, rfl, rfl, rfl, trivial⟩ ?_
 rcases Bool.eq_false_or_eq_true ((decide (0 < (diffv s.ak c.una)))) with hb_116 | hb_116
 ·skip
  refine fw_cT rfl hb_116 ?_
  refine fw_sq ?_
  have hqz117 := RowBut.of (k := 8) r112 rfl
  refine fw_hr (fun X => Below B w X ∧ RowAt X q1 [.int .i64 s.sp, .int .i64 s.dp, .int .i64 s.sq, .int .i64 s.ak, .int .i64 s.fl, .int .i64 s.wn, .slice ad s.d.length cd] ∧ RowBut X q [.int .i64 c.link, .int .i64 c.ip, .int .i64 c.pp, .int .i64 c.po, .int .i64 c.st, .int .i64 c.una, .int .i64 c.nxt, .int .i64 c.win, .slice ao c.out.length co, .int .i64 c.rn, .slice ap PL.length cp, .bool c.cl, .bool c.tm.on, .int .i64 c.tm.left, .int .i64 c.tm.wait, .int .i64 c.tm.tries, .slice al SL.length cl] 8) (by kernel_rfl) 20 rfl ?_
  intro W118 s119
  have b120 := b111.trans (s119.mono (Nat.le_trans hBw b111.size))
  have r121 := r112.below s119
  have r122 := r113.below s119
  have f123 := (RowBut.below hqz117 s119)
  have f124 := (MO.below f114 s119)
  have f125 := (Kp.trans f115 (Kp.of_below s119))
  refine ⟨⟨b120, r122, f123⟩, ?_⟩
  refine fw_tq 0 rfl rfl ?_
  refine fw_tq 1 rfl rfl ?_
  refine fw_tq 2 rfl rfl ?_
  refine fw_tq 3 rfl rfl ?_
  refine fw_tq 4 rfl rfl ?_
  refine fw_tq 6 rfl rfl ?_
  refine fw_tq 7 rfl rfl ?_
  refine fw_tq 8 rfl rfl ?_
  refine fw_tq 9 rfl rfl ?_
  refine fw_tq 10 rfl rfl ?_
  refine fw_o2 5 11 (by kernel_rfl) ?_ ?_
  ·skip
   refine fw_ol rfl r121 rfl rfl ?_
   refine fw_o1 11 (by kernel_rfl) ?_
   refine fw_ol rfl r121 rfl rfl ?_
   refine fw_tq 12 rfl rfl ?_
   refine fw_tx 13 94 (.int .i64 (min (diffv s.ak c.una) ((c.out.length : Nat) : Int))) rfl rfl rfl rfl (fun a h W hW => by obtain ⟨b120, r122, f123⟩ := hW; exact (run_min2 (h.ev rfl) (h.ev rfl) (by omega))) (by kernel_rfl) (fun _ _ _ _ _ h => h) ?_
   obtain ⟨vsl, hslr, hvs⟩ := slice_fromI (Sl.of_own (MO.facts f124).2.2.2.2.2).1 (min (diffv s.ak c.una) ((c.out.length : Nat) : Int)) (by have h := hb_116; rw [decide_eq_true_eq] at h; omega) (by omega)
   refine fw_tx 14 95 (vsl) rfl rfl rfl rfl (fun a h W hW => by obtain ⟨b120, r122, f123⟩ := hW; exact (run_sliceLo _ (h.ev rfl) (h.ev rfl) (hslr _))) (by kernel_rfl) (fun _ _ _ _ _ h => h) ?_
   refine fw_o1 15 (by kernel_rfl) ?_
   have hmoW := f124
   have hWB : B ≤ W118.heap.size := Nat.le_trans hBw f125.size
   refine fw_ov (fun v X => ∃ a2 c2, v = .slice a2 (c.out.drop (min (diffv s.ak c.una) ((c.out.length : Nat) : Int)).toNat).length c2 ∧ Below W118.heap.size W118 X ∧ X.ownsRow W118.heap.size 5 1 (.slice a2 (c.out.drop (min (diffv s.ak c.una) ((c.out.length : Nat) : Int)).toNat).length c2) (c.out.drop (min (diffv s.ak c.una) ((c.out.length : Nat) : Int)).toNat).length ((c.out.drop (min (diffv s.ak c.una) ((c.out.length : Nat) : Int)).toNat).map B8)) rfl Try.func76 rfl rfl rfl ((clone_any vsl (c.out.drop (min (diffv s.ak c.una) ((c.out.length : Nat) : Int)).toNat) W118 (by simp only [List.length_drop]; omega) hvs).mono fun e X ⟨v, he, h1, h2⟩ => by obtain ⟨a2, c2, rfl⟩ := own_slice h2; exact ⟨_, he, a2, c2, rfl, h1, h2⟩) ?_
   rintro _ V127 ⟨a2, c2, rfl, hb126, hd⟩
   have hmoC := MO.newOut hmoW hb126 hd hWB
   have b128 := b120.trans (hb126.mono (Nat.le_trans hBw b120.size))
   have r129 := r121.below hb126
   have r130 := r122.below hb126
   have f131 := (RowBut.below f123 hb126)
   have f132 := (Kp.trans f125 (Kp.of_below hb126))
   refine ⟨⟨b128, r130, f131⟩, ?_⟩
   refine fw_tq 16 rfl rfl ?_
   refine fw_tq 17 rfl rfl ?_
   refine fw_tq 18 rfl rfl ?_
   refine fw_o1 19 (by kernel_rfl) ?_
   refine fw_os rfl r129 rfl rfl ?_
   intro W133 s134 r135
   have b136 := below_chg b128 s134 (by omega) (Nat.le_trans hBw b128.size)
   have r137 := r130.chg s134 (by omega)
   have f138 := (RowBut.set r135 rfl)
   have f139 := (Kp.chg f132 s134 hqH)
   have f140 := (MO.chg hmoC s134 (.inl rfl))
   refine ⟨⟨b136, r137, f138⟩, ?_⟩
   refine fw_ht (by kernel_rfl) ?_
   refine fw_rg rfl ?_
   iterate 3 refine fw_pu rfl ?_
   refine fw_ld r137 rfl rfl ?_
   refine fw_ex 104 (.agg #[.bool false, .int .i64 0, .int .i64 0, .int .i64 0]) rfl rfl rfl (fun a h => (run_buildOp (vs := #[]) (by simp) (by kernel_rfl))) ?_
   iterate 3 refine fw_pu rfl ?_
   refine fw_st r135 rfl rfl ?_
   intro W141 s142 r143
   have b144 := below_chg b136 s142 (by omega) (Nat.le_trans hBw b136.size)
   have f146 := (Kp.chg f139 s142 hqH)
   have f147 := (MO.chg f140 s142 (.inl rfl))
   iterate 3 refine fw_pu rfl ?_
   refine fw_st r143 rfl rfl ?_
   intro W148 s149 r150
   have b151 := below_chg b144 s149 (by omega) (Nat.le_trans hBw b144.size)
   have f153 := (Kp.chg f146 s149 hqH)
   have f154 := (MO.chg f147 s149 (.inl rfl))
   refine fw_dt ?_
   refine fw_fg [(0, _), (4, _)] ⟨rfl, rfl, trivial⟩ ?_
   refine fw_sq ?_
   refine fw_sq ?_
   refine fw_rg rfl ?_
   refine fw_pu rfl ?_
   refine fw_ca Try.func82 rfl rfl rfl (sent_any q ({ c with una := s.ak, tm := tm0, out := (c.out.drop (min (diffv s.ak c.una) ((c.out.length : Nat) : Int)).toNat) } : EC) _ _ _ W148 r150) ?_
   rintro _ V156 ⟨rfl, hb155⟩
   refine ⟨(.int .i64 (sentv ({ c with una := s.ak, tm := tm0, out := (c.out.drop (min (diffv s.ak c.una) ((c.out.length : Nat) : Int)).toNat) } : EC))), rfl, ?_⟩
   have b157 := b151.trans (hb155.mono (Nat.le_trans hBw b151.size))
   have r158 := r150.below hb155
   have f160 := (Kp.trans f153 (Kp.of_below hb155))
   have f161 := (MO.below f154 hb155)
   refine fw_pu rfl ?_
   refine fw_dt ?_
   rcases Bool.eq_false_or_eq_true (((sentv ({ c with una := s.ak, tm := tm0, out := (c.out.drop (min (diffv s.ak c.una) ((c.out.length : Nat) : Int)).toNat) } : EC)) == 0)) with hb_162 | hb_162
   ·skip
    refine fw_cT rfl hb_162 ?_
    refine fw_rg rfl ?_
    refine fw_pu rfl ?_
    refine fw_ca Try.func97 rfl rfl rfl ((finA_any (Mch.mk (rf := false) (c := ({ c with una := s.ak, tm := tm0, out := (c.out.drop (min (diffv s.ak c.una) ((c.out.length : Nat) : Int)).toNat) } : EC)) (T := T) r158 hps hsl f161))) ?_
    rintro _ V163 ⟨rfl, hMz164, hKz164, hBz164⟩
    refine ⟨_, rfl, ?_⟩
    obtain ⟨c165, hc165⟩ : ∃ x, x = (finA ({ c with una := s.ak, tm := tm0, out := (c.out.drop (min (diffv s.ak c.una) ((c.out.length : Nat) : Int)).toNat) } : EC)) := ⟨_, rfl⟩
    rw [← hc165] at hMz164
    obtain ⟨aoz164, coz164, apz164, PLz164, cpz164, alz164, SLz164, clz164, hrz164, hpsz164, hslz164, hmoz164⟩ := Mch.opn hMz164
    have b166 := (b157.trans hBz164)
    have r167 := hrz164
    have f169 := (Kp.trans f160 (Kp.sub hKz164 (fun k hk => by simp [hk])))
    have f170 := hmoz164
    refine fw_dt ?_
    refine fw_sq ?_
    refine fw_rg rfl ?_
    refine fw_pu rfl ?_
    refine fw_dt ?_
    refine fw_rt ?_
    refine ⟨fun a h => ?_⟩
    exact ow_ret1 rfl h.df (h.g 4 rfl) ⟨by unfold ackB; rw [if_neg (by have h := hb_10; simpa using h), hb_100]; rfl, (by have h0 := (Mch.subH (H := H) (Mch.mk (rf := false) (c := c165) (T := T) r167 hpsz164 hslz164 f170) (fun k hk => by simp [hk])); simp only [hc165] at h0; have e2 : ackL c l s = l := (by unfold ackL; rw [if_neg (by have h := hb_10; simpa using h), if_neg (of_decide_eq_false hb_100)]); rw [e2]; unfold ackC; rw [if_neg (by have h := hb_10; simpa using h), if_neg (of_decide_eq_false hb_100)]; unfold ackF ackU; rw [if_pos (of_decide_eq_true hb_116), if_pos (by have h := hb_162; simpa using h)]; exact h0), f169, b166⟩
   refine fw_cF rfl hb_162 ?_
   refine fw_sk ?_
   refine fw_th ?_
   refine fw_sq ?_
   refine fw_rg rfl ?_
   refine fw_pu rfl ?_
   refine fw_dt ?_
   refine fw_rt ?_
   refine ⟨fun a h => ?_⟩
   exact ow_ret1 rfl h.df (h.g 4 rfl) ⟨by unfold ackB; rw [if_neg (by have h := hb_10; simpa using h), hb_100]; rfl, (by have h0 := (Mch.subH (H := H) (Mch.mk (rf := false) (c := ({ c with una := s.ak, tm := tm0, out := (c.out.drop (min (diffv s.ak c.una) ((c.out.length : Nat) : Int)).toNat) } : EC)) (T := T) r158 hps hsl f161) (fun k hk => by simp [hk])); have e2 : ackL c l s = l := (by unfold ackL; rw [if_neg (by have h := hb_10; simpa using h), if_neg (of_decide_eq_false hb_100)]); rw [e2]; unfold ackC; rw [if_neg (by have h := hb_10; simpa using h), if_neg (of_decide_eq_false hb_100)]; unfold ackF ackU; rw [if_pos (of_decide_eq_true hb_116), if_neg (by have h := hb_162; simpa using h)]; exact h0), f160, b157⟩
  refine fw_ol rfl r121 rfl rfl ?_
  refine fw_tq 12 rfl rfl ?_
  refine fw_tx 13 94 (.int .i64 (min (diffv s.ak c.una) ((c.out.length : Nat) : Int))) rfl rfl rfl rfl (fun a h W hW => by obtain ⟨b120, r122, f123⟩ := hW; exact (run_min2 (h.ev rfl) (h.ev rfl) (by omega))) (by kernel_rfl) (fun _ _ _ _ _ h => h) ?_
  refine fw_o1 5 (by kernel_rfl) ?_
  refine fw_ol rfl r121 rfl rfl ?_
  obtain ⟨vsl, hslr, hvs⟩ := slice_fromI (Sl.of_own (MO.facts f124).2.2.2.2.2).1 (min (diffv s.ak c.una) ((c.out.length : Nat) : Int)) (by have h := hb_116; rw [decide_eq_true_eq] at h; omega) (by omega)
  refine fw_tx 14 95 (vsl) rfl rfl rfl rfl (fun a h W hW => by obtain ⟨b120, r122, f123⟩ := hW; exact (run_sliceLo _ (h.ev rfl) (h.ev rfl) (hslr _))) (by kernel_rfl) (fun _ _ _ _ _ h => h) ?_
  refine fw_o1 15 (by kernel_rfl) ?_
  have hmoW := f124
  have hWB : B ≤ W118.heap.size := Nat.le_trans hBw f125.size
  refine fw_ov (fun v X => ∃ a2 c2, v = .slice a2 (c.out.drop (min (diffv s.ak c.una) ((c.out.length : Nat) : Int)).toNat).length c2 ∧ Below W118.heap.size W118 X ∧ X.ownsRow W118.heap.size 5 1 (.slice a2 (c.out.drop (min (diffv s.ak c.una) ((c.out.length : Nat) : Int)).toNat).length c2) (c.out.drop (min (diffv s.ak c.una) ((c.out.length : Nat) : Int)).toNat).length ((c.out.drop (min (diffv s.ak c.una) ((c.out.length : Nat) : Int)).toNat).map B8)) rfl Try.func76 rfl rfl rfl ((clone_any vsl (c.out.drop (min (diffv s.ak c.una) ((c.out.length : Nat) : Int)).toNat) W118 (by simp only [List.length_drop]; omega) hvs).mono fun e X ⟨v, he, h1, h2⟩ => by obtain ⟨a2, c2, rfl⟩ := own_slice h2; exact ⟨_, he, a2, c2, rfl, h1, h2⟩) ?_
  rintro _ V172 ⟨a2, c2, rfl, hb171, hd⟩
  have hmoC := MO.newOut hmoW hb171 hd hWB
  have b173 := b120.trans (hb171.mono (Nat.le_trans hBw b120.size))
  have r174 := r121.below hb171
  have r175 := r122.below hb171
  have f176 := (RowBut.below f123 hb171)
  have f177 := (Kp.trans f125 (Kp.of_below hb171))
  refine ⟨⟨b173, r175, f176⟩, ?_⟩
  refine fw_tq 16 rfl rfl ?_
  refine fw_tq 17 rfl rfl ?_
  refine fw_tq 18 rfl rfl ?_
  refine fw_o1 19 (by kernel_rfl) ?_
  refine fw_os rfl r174 rfl rfl ?_
  intro W178 s179 r180
  have b181 := below_chg b173 s179 (by omega) (Nat.le_trans hBw b173.size)
  have r182 := r175.chg s179 (by omega)
  have f183 := (RowBut.set r180 rfl)
  have f184 := (Kp.chg f177 s179 hqH)
  have f185 := (MO.chg hmoC s179 (.inl rfl))
  refine ⟨⟨b181, r182, f183⟩, ?_⟩
  refine fw_ht (by kernel_rfl) ?_
  refine fw_rg rfl ?_
  iterate 3 refine fw_pu rfl ?_
  refine fw_ld r182 rfl rfl ?_
  refine fw_ex 104 (.agg #[.bool false, .int .i64 0, .int .i64 0, .int .i64 0]) rfl rfl rfl (fun a h => (run_buildOp (vs := #[]) (by simp) (by kernel_rfl))) ?_
  iterate 3 refine fw_pu rfl ?_
  refine fw_st r180 rfl rfl ?_
  intro W186 s187 r188
  have b189 := below_chg b181 s187 (by omega) (Nat.le_trans hBw b181.size)
  have f191 := (Kp.chg f184 s187 hqH)
  have f192 := (MO.chg f185 s187 (.inl rfl))
  iterate 3 refine fw_pu rfl ?_
  refine fw_st r188 rfl rfl ?_
  intro W193 s194 r195
  have b196 := below_chg b189 s194 (by omega) (Nat.le_trans hBw b189.size)
  have f198 := (Kp.chg f191 s194 hqH)
  have f199 := (MO.chg f192 s194 (.inl rfl))
  refine fw_dt ?_
  refine fw_fg [(0, _), (4, _)] ⟨rfl, rfl, trivial⟩ ?_
  refine fw_sq ?_
  refine fw_sq ?_
  refine fw_rg rfl ?_
  refine fw_pu rfl ?_
  refine fw_ca Try.func82 rfl rfl rfl (sent_any q ({ c with una := s.ak, tm := tm0, out := (c.out.drop (min (diffv s.ak c.una) ((c.out.length : Nat) : Int)).toNat) } : EC) _ _ _ W193 r195) ?_
  rintro _ V201 ⟨rfl, hb200⟩
  refine ⟨(.int .i64 (sentv ({ c with una := s.ak, tm := tm0, out := (c.out.drop (min (diffv s.ak c.una) ((c.out.length : Nat) : Int)).toNat) } : EC))), rfl, ?_⟩
  have b202 := b196.trans (hb200.mono (Nat.le_trans hBw b196.size))
  have r203 := r195.below hb200
  have f205 := (Kp.trans f198 (Kp.of_below hb200))
  have f206 := (MO.below f199 hb200)
  refine fw_pu rfl ?_
  refine fw_dt ?_
  rcases Bool.eq_false_or_eq_true (((sentv ({ c with una := s.ak, tm := tm0, out := (c.out.drop (min (diffv s.ak c.una) ((c.out.length : Nat) : Int)).toNat) } : EC)) == 0)) with hb_207 | hb_207
  ·skip
   refine fw_cT rfl hb_207 ?_
   refine fw_rg rfl ?_
   refine fw_pu rfl ?_
   refine fw_ca Try.func97 rfl rfl rfl ((finA_any (Mch.mk (rf := false) (c := ({ c with una := s.ak, tm := tm0, out := (c.out.drop (min (diffv s.ak c.una) ((c.out.length : Nat) : Int)).toNat) } : EC)) (T := T) r203 hps hsl f206))) ?_
   rintro _ V208 ⟨rfl, hMz209, hKz209, hBz209⟩
   refine ⟨_, rfl, ?_⟩
   obtain ⟨c210, hc210⟩ : ∃ x, x = (finA ({ c with una := s.ak, tm := tm0, out := (c.out.drop (min (diffv s.ak c.una) ((c.out.length : Nat) : Int)).toNat) } : EC)) := ⟨_, rfl⟩
   rw [← hc210] at hMz209
   obtain ⟨aoz209, coz209, apz209, PLz209, cpz209, alz209, SLz209, clz209, hrz209, hpsz209, hslz209, hmoz209⟩ := Mch.opn hMz209
   have b211 := (b202.trans hBz209)
   have r212 := hrz209
   have f214 := (Kp.trans f205 (Kp.sub hKz209 (fun k hk => by simp [hk])))
   have f215 := hmoz209
   refine fw_dt ?_
   refine fw_sq ?_
   refine fw_rg rfl ?_
   refine fw_pu rfl ?_
   refine fw_dt ?_
   refine fw_rt ?_
   refine ⟨fun a h => ?_⟩
   exact ow_ret1 rfl h.df (h.g 4 rfl) ⟨by unfold ackB; rw [if_neg (by have h := hb_10; simpa using h), hb_100]; rfl, (by have h0 := (Mch.subH (H := H) (Mch.mk (rf := false) (c := c210) (T := T) r212 hpsz209 hslz209 f215) (fun k hk => by simp [hk])); simp only [hc210] at h0; have e2 : ackL c l s = l := (by unfold ackL; rw [if_neg (by have h := hb_10; simpa using h), if_neg (of_decide_eq_false hb_100)]); rw [e2]; unfold ackC; rw [if_neg (by have h := hb_10; simpa using h), if_neg (of_decide_eq_false hb_100)]; unfold ackF ackU; rw [if_pos (of_decide_eq_true hb_116), if_pos (by have h := hb_207; simpa using h)]; exact h0), f214, b211⟩
  refine fw_cF rfl hb_207 ?_
  refine fw_sk ?_
  refine fw_th ?_
  refine fw_sq ?_
  refine fw_rg rfl ?_
  refine fw_pu rfl ?_
  refine fw_dt ?_
  refine fw_rt ?_
  refine ⟨fun a h => ?_⟩
  exact ow_ret1 rfl h.df (h.g 4 rfl) ⟨by unfold ackB; rw [if_neg (by have h := hb_10; simpa using h), hb_100]; rfl, (by have h0 := (Mch.subH (H := H) (Mch.mk (rf := false) (c := ({ c with una := s.ak, tm := tm0, out := (c.out.drop (min (diffv s.ak c.una) ((c.out.length : Nat) : Int)).toNat) } : EC)) (T := T) r203 hps hsl f206) (fun k hk => by simp [hk])); have e2 : ackL c l s = l := (by unfold ackL; rw [if_neg (by have h := hb_10; simpa using h), if_neg (of_decide_eq_false hb_100)]); rw [e2]; unfold ackC; rw [if_neg (by have h := hb_10; simpa using h), if_neg (of_decide_eq_false hb_100)]; unfold ackF ackU; rw [if_pos (of_decide_eq_true hb_116), if_neg (by have h := hb_207; simpa using h)]; exact h0), f205, b202⟩
 refine fw_cF rfl hb_116 ?_
 refine fw_sk ?_
 refine fw_th ?_
 refine fw_sq ?_
 refine fw_sq ?_
 refine fw_rg rfl ?_
 refine fw_pu rfl ?_
 refine fw_ca Try.func82 rfl rfl rfl (sent_any q c _ _ _ W109 r112) ?_
 rintro _ V217 ⟨rfl, hb216⟩
 refine ⟨(.int .i64 (sentv c)), rfl, ?_⟩
 have b218 := b111.trans (hb216.mono (Nat.le_trans hBw b111.size))
 have r219 := r112.below hb216
 have f221 := (MO.below f114 hb216)
 have f222 := (Kp.trans f115 (Kp.of_below hb216))
 refine fw_pu rfl ?_
 refine fw_dt ?_
 rcases Bool.eq_false_or_eq_true (((sentv c) == 0)) with hb_223 | hb_223
 ·skip
  refine fw_cT rfl hb_223 ?_
  refine fw_rg rfl ?_
  refine fw_pu rfl ?_
  refine fw_ca Try.func97 rfl rfl rfl ((finA_any (Mch.mk (rf := false) (c := c) (T := T) r219 hps hsl f221))) ?_
  rintro _ V224 ⟨rfl, hMz225, hKz225, hBz225⟩
  refine ⟨_, rfl, ?_⟩
  obtain ⟨c226, hc226⟩ : ∃ x, x = (finA c) := ⟨_, rfl⟩
  rw [← hc226] at hMz225
  obtain ⟨aoz225, coz225, apz225, PLz225, cpz225, alz225, SLz225, clz225, hrz225, hpsz225, hslz225, hmoz225⟩ := Mch.opn hMz225
  have b227 := (b218.trans hBz225)
  have r228 := hrz225
  have f230 := hmoz225
  have f231 := (Kp.trans f222 (Kp.sub hKz225 (fun k hk => by simp [hk])))
  refine fw_dt ?_
  refine fw_sq ?_
  refine fw_rg rfl ?_
  refine fw_pu rfl ?_
  refine fw_dt ?_
  refine fw_rt ?_
  refine ⟨fun a h => ?_⟩
  exact ow_ret1 rfl h.df (h.g 4 rfl) ⟨by unfold ackB; rw [if_neg (by have h := hb_10; simpa using h), hb_100]; rfl, (by have h0 := (Mch.subH (H := H) (Mch.mk (rf := false) (c := c226) (T := T) r228 hpsz225 hslz225 f230) (fun k hk => by simp [hk])); simp only [hc226] at h0; have e2 : ackL c l s = l := (by unfold ackL; rw [if_neg (by have h := hb_10; simpa using h), if_neg (of_decide_eq_false hb_100)]); rw [e2]; unfold ackC; rw [if_neg (by have h := hb_10; simpa using h), if_neg (of_decide_eq_false hb_100)]; unfold ackF ackU; rw [if_neg (of_decide_eq_false hb_116), if_pos (by have h := hb_223; simpa using h)]; exact h0), f231, b227⟩
 refine fw_cF rfl hb_223 ?_
 refine fw_sk ?_
 refine fw_th ?_
 refine fw_sq ?_
 refine fw_rg rfl ?_
 refine fw_pu rfl ?_
 refine fw_dt ?_
 refine fw_rt ?_
 refine ⟨fun a h => ?_⟩
 exact ow_ret1 rfl h.df (h.g 4 rfl) ⟨by unfold ackB; rw [if_neg (by have h := hb_10; simpa using h), hb_100]; rfl, (by have h0 := (Mch.subH (H := H) (Mch.mk (rf := false) (c := c) (T := T) r219 hps hsl f221) (fun k hk => by simp [hk])); have e2 : ackL c l s = l := (by unfold ackL; rw [if_neg (by have h := hb_10; simpa using h), if_neg (of_decide_eq_false hb_100)]); rw [e2]; unfold ackC; rw [if_neg (by have h := hb_10; simpa using h), if_neg (of_decide_eq_false hb_100)]; unfold ackF ackU; rw [if_neg (of_decide_eq_false hb_116), if_neg (by have h := hb_223; simpa using h)]; exact h0), f222, b218⟩

theorem mayP_beq (c : EC) : mayP c = ((c.st == 2) || (c.st == 5)) := by
  unfold mayP
  have e : ∀ x y : Int, (x == y) = decide (x = y) := fun x y => by by_cases h : x = y <;> simp [h]
  rw [e, e]
theorem pumpL_go {c : EC} {l : List ES} {f : Nat} (h : ¬ pumpN c ≤ 0) : pumpL (f + 1) c l = pumpL f { c with nxt := addv c.nxt (pumpN c) } (l ++ [mkS c c.nxt 24 ((c.out.drop (sentv c).toNat).take (pumpN c).toNat)]) := by
  show (if pumpN c ≤ 0 then (c, l) else _) = _
  rw [if_neg h]
theorem pumpL_stop {c : EC} {l : List ES} {f : Nat} (h : pumpN c ≤ 0) : pumpL (f + 1) c l = (c, l) := by
  show (if pumpN c ≤ 0 then (c, l) else _) = _
  rw [if_pos h]
theorem pumpN_bd (c : EC) : pumpN c ≤ 536 ∧ pumpN c ≤ c.out.length - sentv c := by unfold pumpN; omega
theorem sent_add {c : EC} {n : Int} (h0 : 0 ≤ sentv c) (h1 : 0 ≤ n) (h2 : sentv c + n < 2147483648) : sentv { c with nxt := addv c.nxt n } = sentv c + n := by
  unfold sentv diffv addv at *
  simp only at *
  omega
theorem pumpF_yes {c : EC} {l : List ES} {x : Int} (h1 : c.cl = true) (h2 : (sentv c == ((c.out.length : Nat) : Int)) = true) (h3 : (if c.st = 2 then (3 : Int) else 7) = x) : pumpF c l = ({ c with nxt := addv c.nxt 1, st := x }, l ++ [mkS c c.nxt 17 []]) := by
  unfold pumpF
  rw [h1, decide_eq_true (by simpa using h2), Bool.true_and, if_pos rfl, h3]
theorem pumpF_no1 {c : EC} {l : List ES} (h1 : c.cl = false) : pumpF c l = (c, l) := by unfold pumpF; rw [h1, Bool.false_and, if_neg Bool.false_ne_true]
theorem pumpF_no2 {c : EC} {l : List ES} (h2 : (sentv c == ((c.out.length : Nat) : Int)) = false) : pumpF c l = (c, l) := by unfold pumpF; rw [decide_eq_false (by simpa using h2), Bool.and_false, if_neg Bool.false_ne_true]
theorem pumpT_yes {c : EC} (h1 : c.tm.on = false) (h2 : (decide (0 < sentv c) || decide (sentv c < ((c.out.length : Nat) : Int))) = true) : pumpT c = { c with tm := tmS 3 } := by unfold pumpT; rw [h1, h2]; rfl
theorem pumpT_no1 {c : EC} (h1 : c.tm.on = true) : pumpT c = c := by unfold pumpT; rw [h1]; rfl
theorem pumpT_no2 {c : EC} (h2 : (decide (0 < sentv c) || decide (sentv c < ((c.out.length : Nat) : Int))) = false) : pumpT c = c := by unfold pumpT; rw [h2, Bool.and_false]; rfl
theorem pumpS_eq {c cI c2 : EC} {l lI l2 : List ES} (hm : mayP c = true) (hP : pumpL (c.out.length + 1) c l = (cI, lI)) (hF : pumpF cI lI = (c2, l2)) : pumpS c l = (pumpT c2, l2) := by
  unfold pumpS pumpA
  rw [if_pos hm, hP]
  simp only [hF]
theorem pumpS_no {c : EC} {l : List ES} (hm : mayP c = false) : pumpS c l = (c, l) := by unfold pumpS; rw [hm, if_neg Bool.false_ne_true]
set_option maxRecDepth 100000 in
set_option maxHeartbeats 4000000 in
theorem may_any (c : EC) (vo vp : Value) (w : World) :
    Calls Try.prog 61 #[.agg #[.int .i64 c.link, .int .i64 c.ip, .int .i64 c.pp, .int .i64 c.po, .int .i64 c.st, .int .i64 c.una, .int .i64 c.nxt, .int .i64 c.win, vo, .int .i64 c.rn, vp, .bool c.cl, .bool c.tm.on, .int .i64 c.tm.left, .int .i64 c.tm.wait, .int .i64 c.tm.tries]] w fun e w' => e = .returned (.bool (mayP c)) ∧ Below w.heap.size w w' := by
 have hb0 := Below.refl w.heap.size w
 refine fw_en 11 [(0, .agg #[.int .i64 c.link, .int .i64 c.ip, .int .i64 c.pp, .int .i64 c.po, .int .i64 c.st, .int .i64 c.una, .int .i64 c.nxt, .int .i64 c.win, vo, .int .i64 c.rn, vp, .bool c.cl, .bool c.tm.on, .int .i64 c.tm.left, .int .i64 c.tm.wait, .int .i64 c.tm.tries])] Try.func61 rfl Try.ntmps61 rfl ⟨rfl, trivial⟩ ?_
 refine fw_sq ?_
 refine fw_rg rfl ?_
 refine fw_bx rfl (cs := [.int .i64 c.link, .int .i64 c.ip, .int .i64 c.pp, .int .i64 c.po, .int .i64 c.st, .int .i64 c.una, .int .i64 c.nxt, .int .i64 c.win, vo, .int .i64 c.rn, vp, .bool c.cl, .bool c.tm.on, .int .i64 c.tm.left, .int .i64 c.tm.wait, .int .i64 c.tm.tries]) rfl ?_
 intro q1 W2 g5 s3 r4
 have := Nat.le_trans hb0.size g5
 have b6 := hb0.trans (s3.mono hb0.size)
 refine fw_pu rfl ?_
 refine fw_dt ?_
 refine fw_sq ?_
 refine fw_rg rfl ?_
 refine fw_pu rfl ?_
 refine fw_ld r4 rfl rfl ?_
 iterate 2 refine fw_pu rfl ?_
 rcases Bool.eq_false_or_eq_true ((c.st == 2)) with hb_7 | hb_7
 ·skip
  refine fw_kn 6 rfl hb_7 ?_
  iterate 5 refine fw_pu rfl ?_
  refine fw_dt ?_
  refine fw_rt ?_
  refine ⟨fun a h => ?_⟩
  exact ow_ret1 rfl h.df (h.g 2 rfl) ⟨by rw [mayP_beq, hb_7]; rfl, b6⟩
 refine fw_kn 6 rfl hb_7 ?_
 refine fw_pu rfl ?_
 refine fw_ld r4 rfl rfl ?_
 iterate 3 refine fw_pu rfl ?_
 refine fw_dt ?_
 refine fw_rt ?_
 refine ⟨fun a h => ?_⟩
 exact ow_ret1 rfl h.df (h.g 2 rfl) ⟨by rw [mayP_beq, hb_7]; rfl, b6⟩
set_option maxRecDepth 100000 in
set_option maxHeartbeats 4000000 in
theorem pump_any {B q : Nat} {H : List Nat} {c : EC} {l : List ES} {T : Td} {w : World} (hM : Mch B H q false c l T w) (hlen : l.length ≤ 1000) (hol : c.out.length ≤ 8192) (hwin0 : 0 ≤ c.win ∧ c.win < 65536) (hsn : mayP c = true → 0 ≤ sentv c ∧ sentv c ≤ c.out.length) :
    Does 63 #[.pointer (some ⟨q, 0, none⟩)] B H q false (.tuple #[]) (pumpS c l).1 (pumpS c l).2 T w := by
 obtain ⟨ao, co, ap, PL, cp, al, SL, cl, hr, hps, hsl, hmo⟩ := hM.opn
 have hBw : B ≤ w.heap.size := hmo.facts.2.1
 have hBq : B ≤ q := hmo.facts.1
 have hqw : q < w.heap.size := hmo.facts.2.2.1
 have hqH : q ∉ H := hmo.facts.2.2.2.1
 have HHlt := Lib.hid hmo.facts.2.2.2.2.1
 have hkp := Kp.refl H w
 have hb0 := Below.refl B w
 replace hr : RowAt w q [.int .i64 c.link, .int .i64 c.ip, .int .i64 c.pp, .int .i64 c.po, .int .i64 c.st, .int .i64 c.una, .int .i64 c.nxt, .int .i64 c.win, .slice ao c.out.length co, .int .i64 c.rn, .slice ap PL.length cp, .bool c.cl, .bool c.tm.on, .int .i64 c.tm.left, .int .i64 c.tm.wait, .int .i64 c.tm.tries, .slice al SL.length cl] := hr
 unfold Does
 refine fw_en 130 [(0, .pointer (some ⟨q, 0, none⟩))] Try.func63 rfl Try.ntmps63 rfl ⟨rfl, trivial⟩ ?_
 refine fw_sq ?_
 refine fw_sq ?_
 refine fw_rg rfl ?_
 iterate 3 refine fw_pu rfl ?_
 refine fw_ld hr rfl rfl ?_
 refine fw_ca Try.func61 rfl rfl rfl (may_any c _ _ w) ?_
 rintro _ V2 ⟨rfl, hb1⟩
 refine ⟨(.bool (mayP c)), rfl, ?_⟩
 have b3 := hb0.trans (hb1.mono (Nat.le_trans hBw hb0.size))
 have r4 := hr.below hb1
 have f5 := (MO.below hmo hb1)
 have f6 := (Kp.trans hkp (Kp.of_below hb1))
 refine fw_pu rfl ?_
 refine fw_dt ?_
 rcases Bool.eq_false_or_eq_true ((mayP c)) with hb_7 | hb_7
 ·skip
  refine fw_cF rfl (not_of hb_7) ?_
  refine fw_sk ?_
  refine fw_th ?_
  refine fw_sq ?_
  refine fw_bk ?_
  have hmay2 := hsn hb_7
  refine fw_lp (fun N K W => ∃ (f : Nat) (cI : EC) (lI : List ES) (aoI : Option Addr) (coI : Nat) (apI : Option Addr) (PLI : List (EP × Value)) (cpI : Nat) (alI : Option Addr) (SLI : List (ES × Value)) (clI : Nat), N = f ∧ pumpL f cI lI = pumpL (c.out.length + 1) c l ∧ 0 ≤ sentv cI ∧ sentv cI ≤ cI.out.length ∧ (cI.out.length : Int) - sentv cI < f ∧ lI.length + f ≤ 50000 ∧ cI.out.length ≤ 8192 ∧ (0 ≤ cI.win ∧ cI.win < 65536) ∧ PLI.map Prod.fst = cI.ps ∧ SLI.map Prod.fst = lI ∧ K = [(0, .pointer (some ⟨q, 0, none⟩))] ∧ Below B w W ∧ RowAt W q [.int .i64 cI.link, .int .i64 cI.ip, .int .i64 cI.pp, .int .i64 cI.po, .int .i64 cI.st, .int .i64 cI.una, .int .i64 cI.nxt, .int .i64 cI.win, .slice aoI cI.out.length coI, .int .i64 cI.rn, .slice apI PLI.length cpI, .bool cI.cl, .bool cI.tm.on, .int .i64 cI.tm.left, .int .i64 cI.tm.wait, .int .i64 cI.tm.tries, .slice alI SLI.length clI] ∧ MO B H q (.slice aoI cI.out.length coI) (.slice apI PLI.length cpI) (.slice alI SLI.length clI) T.v PLI SLI cI.out T.b W ∧ Kp H w W) _ _ ⟨(c.out.length + 1), c, l, ao, co, ap, PL, cp, al, SL, cl, rfl, rfl, hmay2.1, hmay2.2, (by omega), (by omega), hol, hwin0, hps, hsl, rfl, b3, r4, f5, f6⟩ ⟨rfl, trivial⟩ ?_
  rintro N _ W8 ⟨f, cI, lI, aoI, coI, apI, PLI, cpI, alI, SLI, clI, rfl, hP, hs0, hs1, hfu, hlf, hol2, hwin, hpsI, hslI, rfl, bW8, rW8_0, gW8_0, gW8_1⟩
  intro K10 hK10
  refine fw_bk ?_
  refine fw_sq ?_
  refine fw_rg rfl ?_
  refine fw_pu rfl ?_
  refine fw_ca Try.func82 rfl rfl rfl (sent_any q cI _ _ _ W8 rW8_0) ?_
  rintro _ V12 ⟨rfl, hb11⟩
  refine ⟨(.int .i64 (sentv cI)), rfl, ?_⟩
  have b13 := bW8.trans (hb11.mono (Nat.le_trans hBw bW8.size))
  have r14 := rW8_0.below hb11
  have f15 := (MO.below gW8_0 hb11)
  have f16 := (Kp.trans gW8_1 (Kp.of_below hb11))
  refine fw_pu rfl ?_
  refine fw_dt ?_
  refine fw_sq ?_
  refine fw_hr (fun X => Below B w X ∧ RowAt X q [.int .i64 cI.link, .int .i64 cI.ip, .int .i64 cI.pp, .int .i64 cI.po, .int .i64 cI.st, .int .i64 cI.una, .int .i64 cI.nxt, .int .i64 cI.win, .slice aoI cI.out.length coI, .int .i64 cI.rn, .slice apI PLI.length cpI, .bool cI.cl, .bool cI.tm.on, .int .i64 cI.tm.left, .int .i64 cI.tm.wait, .int .i64 cI.tm.tries, .slice alI SLI.length clI] ∧ MO B H q (.slice aoI cI.out.length coI) (.slice apI PLI.length cpI) (.slice alI SLI.length clI) T.v PLI SLI cI.out T.b X ∧ Kp H w X) (by kernel_rfl) 17 rfl ?_
  intro W17 s18
  have b19 := b13.trans (s18.mono (Nat.le_trans hBw b13.size))
  have r20 := r14.below s18
  have f21 := (MO.below f15 s18)
  have f22 := (Kp.trans f16 (Kp.of_below s18))
  refine ⟨⟨b19, r20, f21, f22⟩, ?_⟩
  refine fw_tq 0 rfl rfl ?_
  refine fw_tq 1 rfl rfl ?_
  refine fw_tq 2 rfl rfl ?_
  refine fw_tq 3 rfl rfl ?_
  refine fw_tl 4 (fun _ h => h.2.1) rfl rfl rfl (by kernel_rfl) (fun _ _ _ _ _ h => h) ?_
  refine fw_tq 5 rfl rfl ?_
  refine fw_tq 6 rfl rfl ?_
  refine fw_tx 7 19 (.int .i64 (((cI.out.length : Nat) : Int) - (sentv cI))) rfl rfl rfl rfl (fun a h W hW => by obtain ⟨b19, r20, f21, f22⟩ := hW; exact (run_binOp (h.ev rfl) (h.ev rfl) (by simp [go_sem]) (subIw _ _ _ _ (by (first | rfl | omega | (have := hnb; omega) | (have := hwin; omega))) (by (first | rfl | omega | (have := hnb; omega) | (have := hwin; omega))) (by (first | rfl | omega | (have := hnb; omega) | (have := hwin; omega)))))) (by kernel_rfl) (fun _ _ _ _ _ h => h) ?_
  refine fw_tq 8 rfl rfl ?_
  refine fw_tq 9 rfl rfl ?_
  refine fw_tq 10 rfl rfl ?_
  refine fw_tq 11 rfl rfl ?_
  refine fw_tl 12 (fun _ h => h.2.1) rfl rfl rfl (by kernel_rfl) (fun _ _ _ _ _ h => h) ?_
  refine fw_tq 13 rfl rfl ?_
  refine fw_tx 14 26 (.int .i64 (cI.win - (sentv cI))) rfl rfl rfl rfl (fun a h W hW => by obtain ⟨b19, r20, f21, f22⟩ := hW; exact (run_binOp (h.ev rfl) (h.ev rfl) (by simp [go_sem]) (subIw _ _ _ _ (by (first | rfl | omega | (have := hnb; omega) | (have := hwin; omega))) (by (first | rfl | omega | (have := hnb; omega) | (have := hwin; omega))) (by (first | rfl | omega | (have := hnb; omega) | (have := hwin; omega)))))) (by kernel_rfl) (fun _ _ _ _ _ h => h) ?_
  refine fw_tx 15 27 (.int .i64 (pumpN cI)) rfl rfl rfl rfl (fun a h W hW => by obtain ⟨b19, r20, f21, f22⟩ := hW; exact (run_min3 (h.ev rfl) (h.ev rfl) (h.ev rfl) (by (first | rfl | omega | (have := hnb; omega) | (have := hwin; omega))))) (by kernel_rfl) (fun _ _ _ _ _ h => h) ?_
  refine fw_tq 16 rfl rfl ?_
  refine fw_ht (by kernel_rfl) ?_
  refine fw_sq ?_
  refine fw_sq ?_
  refine fw_rg rfl ?_
  iterate 2 refine fw_pu rfl ?_
  refine fw_dt ?_
  rcases Bool.eq_false_or_eq_true ((decide ((pumpN cI) ≤ 0))) with hb_23 | hb_23
  ·skip
   refine fw_cT rfl hb_23 ?_
   refine fw_xt ?_
   refine fw_te ?_
   refine fw_bf (by decide) ?_
   refine fw_te ?_
   refine fw_be ?_
   refine fw_th ?_
   refine fw_sq ?_
   obtain ⟨f0, rfl⟩ : ∃ k, N = k + 1 := ⟨N - 1, by omega⟩
   have hPP := hP.symm.trans (pumpL_stop (f := f0) (of_decide_eq_true hb_23))
   have hl5 : lI.length ≤ 100000 := by omega
   refine fw_sq ?_
   refine fw_hr (fun X => Below B w X ∧ RowAt X q [.int .i64 cI.link, .int .i64 cI.ip, .int .i64 cI.pp, .int .i64 cI.po, .int .i64 cI.st, .int .i64 cI.una, .int .i64 cI.nxt, .int .i64 cI.win, .slice aoI cI.out.length coI, .int .i64 cI.rn, .slice apI PLI.length cpI, .bool cI.cl, .bool cI.tm.on, .int .i64 cI.tm.left, .int .i64 cI.tm.wait, .int .i64 cI.tm.tries, .slice alI SLI.length clI] ∧ MO B H q (.slice aoI cI.out.length coI) (.slice apI PLI.length cpI) (.slice alI SLI.length clI) T.v PLI SLI cI.out T.b X ∧ Kp H w X) (by kernel_rfl) 16 rfl ?_
   intro W24 s25
   have b26 := b19.trans (s25.mono (Nat.le_trans hBw b19.size))
   have r27 := r20.below s25
   have f28 := (MO.below f21 s25)
   have f29 := (Kp.trans f22 (Kp.of_below s25))
   refine ⟨⟨b26, r27, f28, f29⟩, ?_⟩
   refine fw_tq 0 rfl rfl ?_
   refine fw_tq 1 rfl rfl ?_
   refine fw_tq 2 rfl rfl ?_
   refine fw_tq 3 rfl rfl ?_
   refine fw_tl 4 (fun _ h => h.2.1) rfl rfl rfl (by kernel_rfl) (fun _ _ _ _ _ h => h) ?_
   refine fw_tq 5 rfl rfl ?_
   rcases Bool.eq_false_or_eq_true (cI.cl) with hb_30 | hb_30
   ·skip
    refine fw_kh 63 rfl hb_30 ?_
    refine fw_tq 6 rfl rfl ?_
    refine fw_tq 8 rfl rfl ?_
    refine fw_tq 9 rfl rfl ?_
    refine fw_tq 10 rfl rfl ?_
    refine fw_tq 11 rfl rfl ?_
    refine fw_tl 12 (fun _ h => h.2.1) rfl rfl rfl (by kernel_rfl) (fun _ _ _ _ _ h => h) ?_
    refine fw_tq 13 rfl rfl ?_
    refine fw_o1 7 (by kernel_rfl) ?_
    refine fw_oc rfl Try.func82 rfl rfl rfl (sent_any q cI _ _ _ W24 r27) ?_
    rintro _ V32 ⟨rfl, hb31⟩
    refine ⟨(.int .i64 (sentv cI)), rfl, ?_⟩
    have b33 := b26.trans (hb31.mono (Nat.le_trans hBw b26.size))
    have r34 := r27.below hb31
    have f35 := (MO.below f28 hb31)
    have f36 := (Kp.trans f29 (Kp.of_below hb31))
    refine ⟨⟨b33, r34, f35, f36⟩, ?_⟩
    refine fw_tq 14 rfl rfl ?_
    refine fw_tq 15 rfl rfl ?_
    refine fw_ht (by kernel_rfl) ?_
    refine fw_fg [(0, _), (73, _)] ⟨rfl, rfl, trivial⟩ ?_
    rcases Bool.eq_false_or_eq_true (((sentv cI) == ((cI.out.length : Nat) : Int))) with hb_37 | hb_37
    ·skip
     refine fw_cT rfl hb_37 ?_
     refine fw_sq ?_
     refine fw_rg rfl ?_
     iterate 5 refine fw_pu rfl ?_
     refine fw_ld r34 rfl rfl ?_
     refine fw_ca Try.func71 rfl rfl rfl ((send_any (sq := cI.nxt) (fl := 17) (D := []) (Mch.mk (rf := false) (c := cI) (T := T) r34 hpsI hslI f35) (Sl_nil _) (by decide) hl5)) ?_
     rintro _ V38 ⟨rfl, hMz39, hKz39, hBz39⟩
     refine ⟨_, rfl, ?_⟩
     obtain ⟨l40, hl40⟩ : ∃ x, x = (lI ++ [mkS cI cI.nxt 17 []]) := ⟨_, rfl⟩
     rw [← hl40] at hMz39
     obtain ⟨aoz39, coz39, apz39, PLz39, cpz39, alz39, SLz39, clz39, hrz39, hpsz39, hslz39, hmoz39⟩ := Mch.opn hMz39
     have b41 := (b33.trans hBz39)
     have r42 := hrz39
     have f43 := hmoz39
     have f44 := (Kp.trans f36 (Kp.sub hKz39 (fun k hk => by simp [hk])))
     refine fw_dt ?_
     refine fw_sq ?_
     refine fw_rg rfl ?_
     iterate 5 refine fw_pu rfl ?_
     refine fw_ld r42 rfl rfl ?_
     refine fw_cv (fun v X => v = (.int .i64 (addv cI.nxt 1)) ∧ V38 = X) Try.func54 rfl rfl rfl (((spanAdd_any cI.nxt 1 V38)).mono fun e X h => ⟨_, h.1, rfl, h.2⟩) ?_
     rintro _ _ ⟨rfl, rfl⟩
     iterate 3 refine fw_pu rfl ?_
     refine fw_st r42 rfl rfl ?_
     intro W45 s46 r47
     have b48 := below_chg b41 s46 (by omega) (Nat.le_trans hBw b41.size)
     have f49 := (MO.chg f43 s46 (.inl rfl))
     have f50 := (Kp.chg f44 s46 hqH)
     refine fw_dt ?_
     refine fw_sq ?_
     refine fw_rg rfl ?_
     iterate 4 refine fw_pu rfl ?_
     refine fw_ld r47 rfl rfl ?_
     refine fw_pu rfl ?_
     refine fw_dt ?_
     rcases Bool.eq_false_or_eq_true ((cI.st == 2)) with hb_51 | hb_51
     ·skip
      refine fw_cT rfl hb_51 ?_
      refine fw_rg rfl ?_
      iterate 4 refine fw_pu rfl ?_
      refine fw_st r47 rfl rfl ?_
      intro W52 s53 r54
      have b55 := below_chg b48 s53 (by omega) (Nat.le_trans hBw b48.size)
      have f56 := (MO.chg f49 s53 (.inl rfl))
      have f57 := (Kp.chg f50 s53 hqH)
      refine fw_dt ?_
      refine fw_sq ?_
      refine fw_hr (fun X => Below B w X ∧ RowAt X q [.int .i64 cI.link, .int .i64 cI.ip, .int .i64 cI.pp, .int .i64 cI.po, .int .i64 3, .int .i64 cI.una, .int .i64 (addv cI.nxt 1), .int .i64 cI.win, .slice aoz39 cI.out.length coz39, .int .i64 cI.rn, .slice apz39 PLz39.length cpz39, .bool cI.cl, .bool cI.tm.on, .int .i64 cI.tm.left, .int .i64 cI.tm.wait, .int .i64 cI.tm.tries, .slice alz39 SLz39.length clz39] ∧ MO B (H) q (.slice aoz39 cI.out.length coz39) (.slice apz39 PLz39.length cpz39) (.slice alz39 SLz39.length clz39) (T.v) PLz39 SLz39 cI.out T.b X ∧ Kp H w X) (by kernel_rfl) 23 rfl ?_
      intro W58 s59
      have b60 := b55.trans (s59.mono (Nat.le_trans hBw b55.size))
      have r61 := r54.below s59
      have f62 := (MO.below f56 s59)
      have f63 := (Kp.trans f57 (Kp.of_below s59))
      refine ⟨⟨b60, r61, f62, f63⟩, ?_⟩
      refine fw_tq 0 rfl rfl ?_
      refine fw_tq 1 rfl rfl ?_
      refine fw_tq 2 rfl rfl ?_
      refine fw_tq 3 rfl rfl ?_
      refine fw_tq 4 rfl rfl ?_
      refine fw_tl 5 (fun _ h => h.2.1) rfl rfl rfl (by kernel_rfl) (fun _ _ _ _ _ h => h) ?_
      refine fw_tq 6 rfl rfl ?_
      refine fw_tq 7 rfl rfl ?_
      rcases Bool.eq_false_or_eq_true (cI.tm.on) with hb_64 | hb_64
      ·skip
       refine fw_kh 112 rfl (not_of hb_64) ?_
       refine fw_tq 8 rfl rfl ?_
       refine fw_tq 9 rfl rfl ?_
       refine fw_tq 10 rfl rfl ?_
       refine fw_tq 11 rfl rfl ?_
       refine fw_tq 12 rfl rfl ?_
       refine fw_tq 13 rfl rfl ?_
       refine fw_tq 14 rfl rfl ?_
       refine fw_tq 15 rfl rfl ?_
       refine fw_tq 16 rfl rfl ?_
       refine fw_tq 17 rfl rfl ?_
       refine fw_tq 18 rfl rfl ?_
       refine fw_tq 19 rfl rfl ?_
       refine fw_tq 20 rfl rfl ?_
       refine fw_tq 21 rfl rfl ?_
       refine fw_tq 22 rfl rfl ?_
       refine fw_ht (by kernel_rfl) ?_
       refine fw_fg [(0, _), (127, _)] ⟨rfl, rfl, trivial⟩ ?_
       refine fw_cF rfl rfl ?_
       refine fw_sk ?_
       refine ⟨fun a h => ?_⟩
       exact bodyPost_end (v := .tuple #[]) (by simp [results, Try.results63]) h.df ⟨rfl, (by have h0 := (Mch.mk (rf := false) (c := ({ cI with st := 3, nxt := (addv cI.nxt 1) } : EC)) (T := T) r61 hpsz39 hslz39 f62); simp only [hl40] at h0; rw [pumpS_eq hb_7 hPP (pumpF_yes hb_30 hb_37 (if_pos (by have h := hb_51; simpa using h)))]; show Mch B H q false (pumpT _) _ T _; rw [pumpT_no1 (c := ({ cI with st := 3, nxt := (addv cI.nxt 1) } : EC)) hb_64]; exact h0), f63, b60⟩
      refine fw_kh 112 rfl (not_of hb_64) ?_
      refine fw_tq 8 rfl rfl ?_
      refine fw_o1 9 (by kernel_rfl) ?_
      refine fw_oc rfl Try.func82 rfl rfl rfl (sent_any q ({ cI with st := 3, nxt := (addv cI.nxt 1) } : EC) _ _ _ W58 r61) ?_
      rintro _ V66 ⟨rfl, hb65⟩
      refine ⟨(.int .i64 (sentv ({ cI with st := 3, nxt := (addv cI.nxt 1) } : EC))), rfl, ?_⟩
      have b67 := b60.trans (hb65.mono (Nat.le_trans hBw b60.size))
      have r68 := r61.below hb65
      have f69 := (MO.below f62 hb65)
      have f70 := (Kp.trans f63 (Kp.of_below hb65))
      refine ⟨⟨b67, r68, f69, f70⟩, ?_⟩
      refine fw_tq 10 rfl rfl ?_
      refine fw_tq 11 rfl rfl ?_
      rcases Bool.eq_false_or_eq_true ((decide (0 < (sentv ({ cI with st := 3, nxt := (addv cI.nxt 1) } : EC))))) with hb_71 | hb_71
      ·skip
       refine fw_kh 116 rfl hb_71 ?_
       refine fw_tq 12 rfl rfl ?_
       refine fw_tq 13 rfl rfl ?_
       refine fw_tq 14 rfl rfl ?_
       refine fw_tq 15 rfl rfl ?_
       refine fw_tq 16 rfl rfl ?_
       refine fw_tq 17 rfl rfl ?_
       refine fw_tq 18 rfl rfl ?_
       refine fw_tq 19 rfl rfl ?_
       refine fw_tq 20 rfl rfl ?_
       refine fw_tq 21 rfl rfl ?_
       refine fw_tq 22 rfl rfl ?_
       refine fw_ht (by kernel_rfl) ?_
       refine fw_fg [(0, _), (127, _)] ⟨rfl, rfl, trivial⟩ ?_
       refine fw_cT rfl rfl ?_
       refine fw_rg rfl ?_
       refine fw_pu rfl ?_
       refine fw_ca Try.func70 rfl rfl rfl ((cstart_any (n := 3) (Mch.mk (rf := false) (c := ({ cI with st := 3, nxt := (addv cI.nxt 1) } : EC)) (T := T) r68 hpsz39 hslz39 f69) (by decide) (by decide))) ?_
       rintro _ V72 ⟨rfl, hMz73, hKz73, hBz73⟩
       refine ⟨_, rfl, ?_⟩
       obtain ⟨c74, hc74⟩ : ∃ x, x = ({ ({ cI with st := 3, nxt := (addv cI.nxt 1) } : EC) with tm := tmS 3 } : EC) := ⟨_, rfl⟩
       rw [← hc74] at hMz73
       obtain ⟨aoz73, coz73, apz73, PLz73, cpz73, alz73, SLz73, clz73, hrz73, hpsz73, hslz73, hmoz73⟩ := Mch.opn hMz73
       have b75 := (b67.trans hBz73)
       have r76 := hrz73
       have f77 := hmoz73
       have f78 := (Kp.trans f70 (Kp.sub hKz73 (fun k hk => by simp [hk])))
       refine fw_dn ?_
       refine ⟨fun a h => ?_⟩
       exact bodyPost_end (v := .tuple #[]) (by simp [results, Try.results63]) h.df ⟨rfl, (by have h0 := (Mch.mk (rf := false) (c := c74) (T := T) r76 hpsz73 hslz73 f77); simp only [hc74, hl40] at h0; rw [pumpS_eq hb_7 hPP (pumpF_yes hb_30 hb_37 (if_pos (by have h := hb_51; simpa using h)))]; show Mch B H q false (pumpT _) _ T _; rw [pumpT_yes (c := ({ cI with st := 3, nxt := (addv cI.nxt 1) } : EC)) hb_64 (by rw [hb_71]; rfl)]; exact h0), f78, b75⟩
      refine fw_kh 116 rfl hb_71 ?_
      refine fw_tq 12 rfl rfl ?_
      refine fw_tq 14 rfl rfl ?_
      refine fw_tq 15 rfl rfl ?_
      refine fw_tq 16 rfl rfl ?_
      refine fw_tq 17 rfl rfl ?_
      refine fw_tl 18 (fun _ h => h.2.1) rfl rfl rfl (by kernel_rfl) (fun _ _ _ _ _ h => h) ?_
      refine fw_tq 19 rfl rfl ?_
      refine fw_o1 13 (by kernel_rfl) ?_
      refine fw_oc rfl Try.func82 rfl rfl rfl (sent_any q ({ cI with st := 3, nxt := (addv cI.nxt 1) } : EC) _ _ _ V66 r68) ?_
      rintro _ V80 ⟨rfl, hb79⟩
      refine ⟨(.int .i64 (sentv ({ cI with st := 3, nxt := (addv cI.nxt 1) } : EC))), rfl, ?_⟩
      have b81 := b67.trans (hb79.mono (Nat.le_trans hBw b67.size))
      have r82 := r68.below hb79
      have f83 := (MO.below f69 hb79)
      have f84 := (Kp.trans f70 (Kp.of_below hb79))
      refine ⟨⟨b81, r82, f83, f84⟩, ?_⟩
      refine fw_tq 20 rfl rfl ?_
      refine fw_tq 21 rfl rfl ?_
      refine fw_tq 22 rfl rfl ?_
      refine fw_ht (by kernel_rfl) ?_
      refine fw_fg [(0, _), (127, _)] ⟨rfl, rfl, trivial⟩ ?_
      rcases Bool.eq_false_or_eq_true ((decide ((sentv ({ cI with st := 3, nxt := (addv cI.nxt 1) } : EC)) < ((cI.out.length : Nat) : Int)))) with hb_85 | hb_85
      ·skip
       refine fw_cT rfl hb_85 ?_
       refine fw_rg rfl ?_
       refine fw_pu rfl ?_
       refine fw_ca Try.func70 rfl rfl rfl ((cstart_any (n := 3) (Mch.mk (rf := false) (c := ({ cI with st := 3, nxt := (addv cI.nxt 1) } : EC)) (T := T) r82 hpsz39 hslz39 f83) (by decide) (by decide))) ?_
       rintro _ V86 ⟨rfl, hMz87, hKz87, hBz87⟩
       refine ⟨_, rfl, ?_⟩
       obtain ⟨c88, hc88⟩ : ∃ x, x = ({ ({ cI with st := 3, nxt := (addv cI.nxt 1) } : EC) with tm := tmS 3 } : EC) := ⟨_, rfl⟩
       rw [← hc88] at hMz87
       obtain ⟨aoz87, coz87, apz87, PLz87, cpz87, alz87, SLz87, clz87, hrz87, hpsz87, hslz87, hmoz87⟩ := Mch.opn hMz87
       have b89 := (b81.trans hBz87)
       have r90 := hrz87
       have f91 := hmoz87
       have f92 := (Kp.trans f84 (Kp.sub hKz87 (fun k hk => by simp [hk])))
       refine fw_dn ?_
       refine ⟨fun a h => ?_⟩
       exact bodyPost_end (v := .tuple #[]) (by simp [results, Try.results63]) h.df ⟨rfl, (by have h0 := (Mch.mk (rf := false) (c := c88) (T := T) r90 hpsz87 hslz87 f91); simp only [hc88, hl40] at h0; rw [pumpS_eq hb_7 hPP (pumpF_yes hb_30 hb_37 (if_pos (by have h := hb_51; simpa using h)))]; show Mch B H q false (pumpT _) _ T _; rw [pumpT_yes (c := ({ cI with st := 3, nxt := (addv cI.nxt 1) } : EC)) hb_64 (by rw [hb_71, Bool.false_or]; exact hb_85)]; exact h0), f92, b89⟩
      refine fw_cF rfl hb_85 ?_
      refine fw_sk ?_
      refine ⟨fun a h => ?_⟩
      exact bodyPost_end (v := .tuple #[]) (by simp [results, Try.results63]) h.df ⟨rfl, (by have h0 := (Mch.mk (rf := false) (c := ({ cI with st := 3, nxt := (addv cI.nxt 1) } : EC)) (T := T) r82 hpsz39 hslz39 f83); simp only [hl40] at h0; rw [pumpS_eq hb_7 hPP (pumpF_yes hb_30 hb_37 (if_pos (by have h := hb_51; simpa using h)))]; show Mch B H q false (pumpT _) _ T _; rw [pumpT_no2 (c := ({ cI with st := 3, nxt := (addv cI.nxt 1) } : EC)) (by rw [hb_71, Bool.false_or]; exact hb_85)]; exact h0), f84, b81⟩
     refine fw_cF rfl hb_51 ?_
     refine fw_rg rfl ?_
     iterate 4 refine fw_pu rfl ?_
     refine fw_st r47 rfl rfl ?_
     intro W93 s94 r95
     have b96 := below_chg b48 s94 (by omega) (Nat.le_trans hBw b48.size)
     have f97 := (MO.chg f49 s94 (.inl rfl))
     have f98 := (Kp.chg f50 s94 hqH)
     refine fw_dt ?_
     refine fw_sq ?_
     refine fw_hr (fun X => Below B w X ∧ RowAt X q [.int .i64 cI.link, .int .i64 cI.ip, .int .i64 cI.pp, .int .i64 cI.po, .int .i64 7, .int .i64 cI.una, .int .i64 (addv cI.nxt 1), .int .i64 cI.win, .slice aoz39 cI.out.length coz39, .int .i64 cI.rn, .slice apz39 PLz39.length cpz39, .bool cI.cl, .bool cI.tm.on, .int .i64 cI.tm.left, .int .i64 cI.tm.wait, .int .i64 cI.tm.tries, .slice alz39 SLz39.length clz39] ∧ MO B (H) q (.slice aoz39 cI.out.length coz39) (.slice apz39 PLz39.length cpz39) (.slice alz39 SLz39.length clz39) (T.v) PLz39 SLz39 cI.out T.b X ∧ Kp H w X) (by kernel_rfl) 23 rfl ?_
     intro W99 s100
     have b101 := b96.trans (s100.mono (Nat.le_trans hBw b96.size))
     have r102 := r95.below s100
     have f103 := (MO.below f97 s100)
     have f104 := (Kp.trans f98 (Kp.of_below s100))
     refine ⟨⟨b101, r102, f103, f104⟩, ?_⟩
     refine fw_tq 0 rfl rfl ?_
     refine fw_tq 1 rfl rfl ?_
     refine fw_tq 2 rfl rfl ?_
     refine fw_tq 3 rfl rfl ?_
     refine fw_tq 4 rfl rfl ?_
     refine fw_tl 5 (fun _ h => h.2.1) rfl rfl rfl (by kernel_rfl) (fun _ _ _ _ _ h => h) ?_
     refine fw_tq 6 rfl rfl ?_
     refine fw_tq 7 rfl rfl ?_
     rcases Bool.eq_false_or_eq_true (cI.tm.on) with hb_105 | hb_105
     ·skip
      refine fw_kh 112 rfl (not_of hb_105) ?_
      refine fw_tq 8 rfl rfl ?_
      refine fw_tq 9 rfl rfl ?_
      refine fw_tq 10 rfl rfl ?_
      refine fw_tq 11 rfl rfl ?_
      refine fw_tq 12 rfl rfl ?_
      refine fw_tq 13 rfl rfl ?_
      refine fw_tq 14 rfl rfl ?_
      refine fw_tq 15 rfl rfl ?_
      refine fw_tq 16 rfl rfl ?_
      refine fw_tq 17 rfl rfl ?_
      refine fw_tq 18 rfl rfl ?_
      refine fw_tq 19 rfl rfl ?_
      refine fw_tq 20 rfl rfl ?_
      refine fw_tq 21 rfl rfl ?_
      refine fw_tq 22 rfl rfl ?_
      refine fw_ht (by kernel_rfl) ?_
      refine fw_fg [(0, _), (127, _)] ⟨rfl, rfl, trivial⟩ ?_
      refine fw_cF rfl rfl ?_
      refine fw_sk ?_
      refine ⟨fun a h => ?_⟩
      exact bodyPost_end (v := .tuple #[]) (by simp [results, Try.results63]) h.df ⟨rfl, (by have h0 := (Mch.mk (rf := false) (c := ({ cI with st := 7, nxt := (addv cI.nxt 1) } : EC)) (T := T) r102 hpsz39 hslz39 f103); simp only [hl40] at h0; rw [pumpS_eq hb_7 hPP (pumpF_yes hb_30 hb_37 (if_neg (by have h := hb_51; simpa using h)))]; show Mch B H q false (pumpT _) _ T _; rw [pumpT_no1 (c := ({ cI with st := 7, nxt := (addv cI.nxt 1) } : EC)) hb_105]; exact h0), f104, b101⟩
     refine fw_kh 112 rfl (not_of hb_105) ?_
     refine fw_tq 8 rfl rfl ?_
     refine fw_o1 9 (by kernel_rfl) ?_
     refine fw_oc rfl Try.func82 rfl rfl rfl (sent_any q ({ cI with st := 7, nxt := (addv cI.nxt 1) } : EC) _ _ _ W99 r102) ?_
     rintro _ V107 ⟨rfl, hb106⟩
     refine ⟨(.int .i64 (sentv ({ cI with st := 7, nxt := (addv cI.nxt 1) } : EC))), rfl, ?_⟩
     have b108 := b101.trans (hb106.mono (Nat.le_trans hBw b101.size))
     have r109 := r102.below hb106
     have f110 := (MO.below f103 hb106)
     have f111 := (Kp.trans f104 (Kp.of_below hb106))
     refine ⟨⟨b108, r109, f110, f111⟩, ?_⟩
     refine fw_tq 10 rfl rfl ?_
     refine fw_tq 11 rfl rfl ?_
     rcases Bool.eq_false_or_eq_true ((decide (0 < (sentv ({ cI with st := 7, nxt := (addv cI.nxt 1) } : EC))))) with hb_112 | hb_112
     ·skip
      refine fw_kh 116 rfl hb_112 ?_
      refine fw_tq 12 rfl rfl ?_
      refine fw_tq 13 rfl rfl ?_
      refine fw_tq 14 rfl rfl ?_
      refine fw_tq 15 rfl rfl ?_
      refine fw_tq 16 rfl rfl ?_
      refine fw_tq 17 rfl rfl ?_
      refine fw_tq 18 rfl rfl ?_
      refine fw_tq 19 rfl rfl ?_
      refine fw_tq 20 rfl rfl ?_
      refine fw_tq 21 rfl rfl ?_
      refine fw_tq 22 rfl rfl ?_
      refine fw_ht (by kernel_rfl) ?_
      refine fw_fg [(0, _), (127, _)] ⟨rfl, rfl, trivial⟩ ?_
      refine fw_cT rfl rfl ?_
      refine fw_rg rfl ?_
      refine fw_pu rfl ?_
      refine fw_ca Try.func70 rfl rfl rfl ((cstart_any (n := 3) (Mch.mk (rf := false) (c := ({ cI with st := 7, nxt := (addv cI.nxt 1) } : EC)) (T := T) r109 hpsz39 hslz39 f110) (by decide) (by decide))) ?_
      rintro _ V113 ⟨rfl, hMz114, hKz114, hBz114⟩
      refine ⟨_, rfl, ?_⟩
      obtain ⟨c115, hc115⟩ : ∃ x, x = ({ ({ cI with st := 7, nxt := (addv cI.nxt 1) } : EC) with tm := tmS 3 } : EC) := ⟨_, rfl⟩
      rw [← hc115] at hMz114
      obtain ⟨aoz114, coz114, apz114, PLz114, cpz114, alz114, SLz114, clz114, hrz114, hpsz114, hslz114, hmoz114⟩ := Mch.opn hMz114
      have b116 := (b108.trans hBz114)
      have r117 := hrz114
      have f118 := hmoz114
      have f119 := (Kp.trans f111 (Kp.sub hKz114 (fun k hk => by simp [hk])))
      refine fw_dn ?_
      refine ⟨fun a h => ?_⟩
      exact bodyPost_end (v := .tuple #[]) (by simp [results, Try.results63]) h.df ⟨rfl, (by have h0 := (Mch.mk (rf := false) (c := c115) (T := T) r117 hpsz114 hslz114 f118); simp only [hc115, hl40] at h0; rw [pumpS_eq hb_7 hPP (pumpF_yes hb_30 hb_37 (if_neg (by have h := hb_51; simpa using h)))]; show Mch B H q false (pumpT _) _ T _; rw [pumpT_yes (c := ({ cI with st := 7, nxt := (addv cI.nxt 1) } : EC)) hb_105 (by rw [hb_112]; rfl)]; exact h0), f119, b116⟩
     refine fw_kh 116 rfl hb_112 ?_
     refine fw_tq 12 rfl rfl ?_
     refine fw_tq 14 rfl rfl ?_
     refine fw_tq 15 rfl rfl ?_
     refine fw_tq 16 rfl rfl ?_
     refine fw_tq 17 rfl rfl ?_
     refine fw_tl 18 (fun _ h => h.2.1) rfl rfl rfl (by kernel_rfl) (fun _ _ _ _ _ h => h) ?_
     refine fw_tq 19 rfl rfl ?_
     refine fw_o1 13 (by kernel_rfl) ?_
     refine fw_oc rfl Try.func82 rfl rfl rfl (sent_any q ({ cI with st := 7, nxt := (addv cI.nxt 1) } : EC) _ _ _ V107 r109) ?_
     rintro _ V121 ⟨rfl, hb120⟩
     refine ⟨(.int .i64 (sentv ({ cI with st := 7, nxt := (addv cI.nxt 1) } : EC))), rfl, ?_⟩
     have b122 := b108.trans (hb120.mono (Nat.le_trans hBw b108.size))
     have r123 := r109.below hb120
     have f124 := (MO.below f110 hb120)
     have f125 := (Kp.trans f111 (Kp.of_below hb120))
     refine ⟨⟨b122, r123, f124, f125⟩, ?_⟩
     refine fw_tq 20 rfl rfl ?_
     refine fw_tq 21 rfl rfl ?_
     refine fw_tq 22 rfl rfl ?_
     refine fw_ht (by kernel_rfl) ?_
     refine fw_fg [(0, _), (127, _)] ⟨rfl, rfl, trivial⟩ ?_
     rcases Bool.eq_false_or_eq_true ((decide ((sentv ({ cI with st := 7, nxt := (addv cI.nxt 1) } : EC)) < ((cI.out.length : Nat) : Int)))) with hb_126 | hb_126
     ·skip
      refine fw_cT rfl hb_126 ?_
      refine fw_rg rfl ?_
      refine fw_pu rfl ?_
      refine fw_ca Try.func70 rfl rfl rfl ((cstart_any (n := 3) (Mch.mk (rf := false) (c := ({ cI with st := 7, nxt := (addv cI.nxt 1) } : EC)) (T := T) r123 hpsz39 hslz39 f124) (by decide) (by decide))) ?_
      rintro _ V127 ⟨rfl, hMz128, hKz128, hBz128⟩
      refine ⟨_, rfl, ?_⟩
      obtain ⟨c129, hc129⟩ : ∃ x, x = ({ ({ cI with st := 7, nxt := (addv cI.nxt 1) } : EC) with tm := tmS 3 } : EC) := ⟨_, rfl⟩
      rw [← hc129] at hMz128
      obtain ⟨aoz128, coz128, apz128, PLz128, cpz128, alz128, SLz128, clz128, hrz128, hpsz128, hslz128, hmoz128⟩ := Mch.opn hMz128
      have b130 := (b122.trans hBz128)
      have r131 := hrz128
      have f132 := hmoz128
      have f133 := (Kp.trans f125 (Kp.sub hKz128 (fun k hk => by simp [hk])))
      refine fw_dn ?_
      refine ⟨fun a h => ?_⟩
      exact bodyPost_end (v := .tuple #[]) (by simp [results, Try.results63]) h.df ⟨rfl, (by have h0 := (Mch.mk (rf := false) (c := c129) (T := T) r131 hpsz128 hslz128 f132); simp only [hc129, hl40] at h0; rw [pumpS_eq hb_7 hPP (pumpF_yes hb_30 hb_37 (if_neg (by have h := hb_51; simpa using h)))]; show Mch B H q false (pumpT _) _ T _; rw [pumpT_yes (c := ({ cI with st := 7, nxt := (addv cI.nxt 1) } : EC)) hb_105 (by rw [hb_112, Bool.false_or]; exact hb_126)]; exact h0), f133, b130⟩
     refine fw_cF rfl hb_126 ?_
     refine fw_sk ?_
     refine ⟨fun a h => ?_⟩
     exact bodyPost_end (v := .tuple #[]) (by simp [results, Try.results63]) h.df ⟨rfl, (by have h0 := (Mch.mk (rf := false) (c := ({ cI with st := 7, nxt := (addv cI.nxt 1) } : EC)) (T := T) r123 hpsz39 hslz39 f124); simp only [hl40] at h0; rw [pumpS_eq hb_7 hPP (pumpF_yes hb_30 hb_37 (if_neg (by have h := hb_51; simpa using h)))]; show Mch B H q false (pumpT _) _ T _; rw [pumpT_no2 (c := ({ cI with st := 7, nxt := (addv cI.nxt 1) } : EC)) (by rw [hb_112, Bool.false_or]; exact hb_126)]; exact h0), f125, b122⟩
    refine fw_cF rfl hb_37 ?_
    refine fw_sk ?_
    refine fw_th ?_
    refine fw_sq ?_
    refine fw_hr (fun X => Below B w X ∧ RowAt X q [.int .i64 cI.link, .int .i64 cI.ip, .int .i64 cI.pp, .int .i64 cI.po, .int .i64 cI.st, .int .i64 cI.una, .int .i64 cI.nxt, .int .i64 cI.win, .slice aoI cI.out.length coI, .int .i64 cI.rn, .slice apI PLI.length cpI, .bool cI.cl, .bool cI.tm.on, .int .i64 cI.tm.left, .int .i64 cI.tm.wait, .int .i64 cI.tm.tries, .slice alI SLI.length clI] ∧ MO B H q (.slice aoI cI.out.length coI) (.slice apI PLI.length cpI) (.slice alI SLI.length clI) T.v PLI SLI cI.out T.b X ∧ Kp H w X) (by kernel_rfl) 23 rfl ?_
    intro W134 s135
    have b136 := b33.trans (s135.mono (Nat.le_trans hBw b33.size))
    have r137 := r34.below s135
    have f138 := (MO.below f35 s135)
    have f139 := (Kp.trans f36 (Kp.of_below s135))
    refine ⟨⟨b136, r137, f138, f139⟩, ?_⟩
    refine fw_tq 0 rfl rfl ?_
    refine fw_tq 1 rfl rfl ?_
    refine fw_tq 2 rfl rfl ?_
    refine fw_tq 3 rfl rfl ?_
    refine fw_tq 4 rfl rfl ?_
    refine fw_tl 5 (fun _ h => h.2.1) rfl rfl rfl (by kernel_rfl) (fun _ _ _ _ _ h => h) ?_
    refine fw_tq 6 rfl rfl ?_
    refine fw_tq 7 rfl rfl ?_
    rcases Bool.eq_false_or_eq_true (cI.tm.on) with hb_140 | hb_140
    ·skip
     refine fw_kh 112 rfl (not_of hb_140) ?_
     refine fw_tq 8 rfl rfl ?_
     refine fw_tq 9 rfl rfl ?_
     refine fw_tq 10 rfl rfl ?_
     refine fw_tq 11 rfl rfl ?_
     refine fw_tq 12 rfl rfl ?_
     refine fw_tq 13 rfl rfl ?_
     refine fw_tq 14 rfl rfl ?_
     refine fw_tq 15 rfl rfl ?_
     refine fw_tq 16 rfl rfl ?_
     refine fw_tq 17 rfl rfl ?_
     refine fw_tq 18 rfl rfl ?_
     refine fw_tq 19 rfl rfl ?_
     refine fw_tq 20 rfl rfl ?_
     refine fw_tq 21 rfl rfl ?_
     refine fw_tq 22 rfl rfl ?_
     refine fw_ht (by kernel_rfl) ?_
     refine fw_cF rfl rfl ?_
     refine fw_sk ?_
     refine ⟨fun a h => ?_⟩
     exact bodyPost_end (v := .tuple #[]) (by simp [results, Try.results63]) h.df ⟨rfl, (by have h0 := (Mch.mk (rf := false) (c := cI) (T := T) r137 hpsI hslI f138); rw [pumpS_eq hb_7 hPP (pumpF_no2 hb_37)]; show Mch B H q false (pumpT _) _ T _; rw [pumpT_no1 (c := cI) hb_140]; exact h0), f139, b136⟩
    refine fw_kh 112 rfl (not_of hb_140) ?_
    refine fw_tq 8 rfl rfl ?_
    refine fw_o1 9 (by kernel_rfl) ?_
    refine fw_oc rfl Try.func82 rfl rfl rfl (sent_any q cI _ _ _ W134 r137) ?_
    rintro _ V142 ⟨rfl, hb141⟩
    refine ⟨(.int .i64 (sentv cI)), rfl, ?_⟩
    have b143 := b136.trans (hb141.mono (Nat.le_trans hBw b136.size))
    have r144 := r137.below hb141
    have f145 := (MO.below f138 hb141)
    have f146 := (Kp.trans f139 (Kp.of_below hb141))
    refine ⟨⟨b143, r144, f145, f146⟩, ?_⟩
    refine fw_tq 10 rfl rfl ?_
    refine fw_tq 11 rfl rfl ?_
    rcases Bool.eq_false_or_eq_true ((decide (0 < (sentv cI)))) with hb_147 | hb_147
    ·skip
     refine fw_kh 116 rfl hb_147 ?_
     refine fw_tq 12 rfl rfl ?_
     refine fw_tq 13 rfl rfl ?_
     refine fw_tq 14 rfl rfl ?_
     refine fw_tq 15 rfl rfl ?_
     refine fw_tq 16 rfl rfl ?_
     refine fw_tq 17 rfl rfl ?_
     refine fw_tq 18 rfl rfl ?_
     refine fw_tq 19 rfl rfl ?_
     refine fw_tq 20 rfl rfl ?_
     refine fw_tq 21 rfl rfl ?_
     refine fw_tq 22 rfl rfl ?_
     refine fw_ht (by kernel_rfl) ?_
     refine fw_cT rfl rfl ?_
     refine fw_rg rfl ?_
     refine fw_pu rfl ?_
     refine fw_ca Try.func70 rfl rfl rfl ((cstart_any (n := 3) (Mch.mk (rf := false) (c := cI) (T := T) r144 hpsI hslI f145) (by decide) (by decide))) ?_
     rintro _ V148 ⟨rfl, hMz149, hKz149, hBz149⟩
     refine ⟨_, rfl, ?_⟩
     obtain ⟨c150, hc150⟩ : ∃ x, x = ({ cI with tm := tmS 3 } : EC) := ⟨_, rfl⟩
     rw [← hc150] at hMz149
     obtain ⟨aoz149, coz149, apz149, PLz149, cpz149, alz149, SLz149, clz149, hrz149, hpsz149, hslz149, hmoz149⟩ := Mch.opn hMz149
     have b151 := (b143.trans hBz149)
     have r152 := hrz149
     have f153 := hmoz149
     have f154 := (Kp.trans f146 (Kp.sub hKz149 (fun k hk => by simp [hk])))
     refine fw_dn ?_
     refine ⟨fun a h => ?_⟩
     exact bodyPost_end (v := .tuple #[]) (by simp [results, Try.results63]) h.df ⟨rfl, (by have h0 := (Mch.mk (rf := false) (c := c150) (T := T) r152 hpsz149 hslz149 f153); simp only [hc150] at h0; rw [pumpS_eq hb_7 hPP (pumpF_no2 hb_37)]; show Mch B H q false (pumpT _) _ T _; rw [pumpT_yes (c := cI) hb_140 (by rw [hb_147]; rfl)]; exact h0), f154, b151⟩
    refine fw_kh 116 rfl hb_147 ?_
    refine fw_tq 12 rfl rfl ?_
    refine fw_tq 14 rfl rfl ?_
    refine fw_tq 15 rfl rfl ?_
    refine fw_tq 16 rfl rfl ?_
    refine fw_tq 17 rfl rfl ?_
    refine fw_tl 18 (fun _ h => h.2.1) rfl rfl rfl (by kernel_rfl) (fun _ _ _ _ _ h => h) ?_
    refine fw_tq 19 rfl rfl ?_
    refine fw_o1 13 (by kernel_rfl) ?_
    refine fw_oc rfl Try.func82 rfl rfl rfl (sent_any q cI _ _ _ V142 r144) ?_
    rintro _ V156 ⟨rfl, hb155⟩
    refine ⟨(.int .i64 (sentv cI)), rfl, ?_⟩
    have b157 := b143.trans (hb155.mono (Nat.le_trans hBw b143.size))
    have r158 := r144.below hb155
    have f159 := (MO.below f145 hb155)
    have f160 := (Kp.trans f146 (Kp.of_below hb155))
    refine ⟨⟨b157, r158, f159, f160⟩, ?_⟩
    refine fw_tq 20 rfl rfl ?_
    refine fw_tq 21 rfl rfl ?_
    refine fw_tq 22 rfl rfl ?_
    refine fw_ht (by kernel_rfl) ?_
    rcases Bool.eq_false_or_eq_true ((decide ((sentv cI) < ((cI.out.length : Nat) : Int)))) with hb_161 | hb_161
    ·skip
     refine fw_cT rfl hb_161 ?_
     refine fw_rg rfl ?_
     refine fw_pu rfl ?_
     refine fw_ca Try.func70 rfl rfl rfl ((cstart_any (n := 3) (Mch.mk (rf := false) (c := cI) (T := T) r158 hpsI hslI f159) (by decide) (by decide))) ?_
     rintro _ V162 ⟨rfl, hMz163, hKz163, hBz163⟩
     refine ⟨_, rfl, ?_⟩
     obtain ⟨c164, hc164⟩ : ∃ x, x = ({ cI with tm := tmS 3 } : EC) := ⟨_, rfl⟩
     rw [← hc164] at hMz163
     obtain ⟨aoz163, coz163, apz163, PLz163, cpz163, alz163, SLz163, clz163, hrz163, hpsz163, hslz163, hmoz163⟩ := Mch.opn hMz163
     have b165 := (b157.trans hBz163)
     have r166 := hrz163
     have f167 := hmoz163
     have f168 := (Kp.trans f160 (Kp.sub hKz163 (fun k hk => by simp [hk])))
     refine fw_dn ?_
     refine ⟨fun a h => ?_⟩
     exact bodyPost_end (v := .tuple #[]) (by simp [results, Try.results63]) h.df ⟨rfl, (by have h0 := (Mch.mk (rf := false) (c := c164) (T := T) r166 hpsz163 hslz163 f167); simp only [hc164] at h0; rw [pumpS_eq hb_7 hPP (pumpF_no2 hb_37)]; show Mch B H q false (pumpT _) _ T _; rw [pumpT_yes (c := cI) hb_140 (by rw [hb_147, Bool.false_or]; exact hb_161)]; exact h0), f168, b165⟩
    refine fw_cF rfl hb_161 ?_
    refine fw_sk ?_
    refine ⟨fun a h => ?_⟩
    exact bodyPost_end (v := .tuple #[]) (by simp [results, Try.results63]) h.df ⟨rfl, (by have h0 := (Mch.mk (rf := false) (c := cI) (T := T) r158 hpsI hslI f159); rw [pumpS_eq hb_7 hPP (pumpF_no2 hb_37)]; show Mch B H q false (pumpT _) _ T _; rw [pumpT_no2 (c := cI) (by rw [hb_147, Bool.false_or]; exact hb_161)]; exact h0), f160, b157⟩
   refine fw_kh 63 rfl hb_30 ?_
   refine fw_tq 6 rfl rfl ?_
   refine fw_tq 7 rfl rfl ?_
   refine fw_tq 8 rfl rfl ?_
   refine fw_tq 9 rfl rfl ?_
   refine fw_tq 10 rfl rfl ?_
   refine fw_tq 11 rfl rfl ?_
   refine fw_tq 12 rfl rfl ?_
   refine fw_tq 13 rfl rfl ?_
   refine fw_tq 14 rfl rfl ?_
   refine fw_tq 15 rfl rfl ?_
   refine fw_ht (by kernel_rfl) ?_
   refine fw_fg [(0, _), (73, _)] ⟨rfl, rfl, trivial⟩ ?_
   refine fw_cF rfl rfl ?_
   refine fw_sk ?_
   refine fw_th ?_
   refine fw_sq ?_
   refine fw_hr (fun X => Below B w X ∧ RowAt X q [.int .i64 cI.link, .int .i64 cI.ip, .int .i64 cI.pp, .int .i64 cI.po, .int .i64 cI.st, .int .i64 cI.una, .int .i64 cI.nxt, .int .i64 cI.win, .slice aoI cI.out.length coI, .int .i64 cI.rn, .slice apI PLI.length cpI, .bool cI.cl, .bool cI.tm.on, .int .i64 cI.tm.left, .int .i64 cI.tm.wait, .int .i64 cI.tm.tries, .slice alI SLI.length clI] ∧ MO B H q (.slice aoI cI.out.length coI) (.slice apI PLI.length cpI) (.slice alI SLI.length clI) T.v PLI SLI cI.out T.b X ∧ Kp H w X) (by kernel_rfl) 23 rfl ?_
   intro W169 s170
   have b171 := b26.trans (s170.mono (Nat.le_trans hBw b26.size))
   have r172 := r27.below s170
   have f173 := (MO.below f28 s170)
   have f174 := (Kp.trans f29 (Kp.of_below s170))
   refine ⟨⟨b171, r172, f173, f174⟩, ?_⟩
   refine fw_tq 0 rfl rfl ?_
   refine fw_tq 1 rfl rfl ?_
   refine fw_tq 2 rfl rfl ?_
   refine fw_tq 3 rfl rfl ?_
   refine fw_tq 4 rfl rfl ?_
   refine fw_tl 5 (fun _ h => h.2.1) rfl rfl rfl (by kernel_rfl) (fun _ _ _ _ _ h => h) ?_
   refine fw_tq 6 rfl rfl ?_
   refine fw_tq 7 rfl rfl ?_
   rcases Bool.eq_false_or_eq_true (cI.tm.on) with hb_175 | hb_175
   ·skip
    refine fw_kh 112 rfl (not_of hb_175) ?_
    refine fw_tq 8 rfl rfl ?_
    refine fw_tq 9 rfl rfl ?_
    refine fw_tq 10 rfl rfl ?_
    refine fw_tq 11 rfl rfl ?_
    refine fw_tq 12 rfl rfl ?_
    refine fw_tq 13 rfl rfl ?_
    refine fw_tq 14 rfl rfl ?_
    refine fw_tq 15 rfl rfl ?_
    refine fw_tq 16 rfl rfl ?_
    refine fw_tq 17 rfl rfl ?_
    refine fw_tq 18 rfl rfl ?_
    refine fw_tq 19 rfl rfl ?_
    refine fw_tq 20 rfl rfl ?_
    refine fw_tq 21 rfl rfl ?_
    refine fw_tq 22 rfl rfl ?_
    refine fw_ht (by kernel_rfl) ?_
    refine fw_cF rfl rfl ?_
    refine fw_sk ?_
    refine ⟨fun a h => ?_⟩
    exact bodyPost_end (v := .tuple #[]) (by simp [results, Try.results63]) h.df ⟨rfl, (by have h0 := (Mch.mk (rf := false) (c := cI) (T := T) r172 hpsI hslI f173); rw [pumpS_eq hb_7 hPP (pumpF_no1 hb_30)]; show Mch B H q false (pumpT _) _ T _; rw [pumpT_no1 (c := cI) hb_175]; exact h0), f174, b171⟩
   refine fw_kh 112 rfl (not_of hb_175) ?_
   refine fw_tq 8 rfl rfl ?_
   refine fw_o1 9 (by kernel_rfl) ?_
   refine fw_oc rfl Try.func82 rfl rfl rfl (sent_any q cI _ _ _ W169 r172) ?_
   rintro _ V177 ⟨rfl, hb176⟩
   refine ⟨(.int .i64 (sentv cI)), rfl, ?_⟩
   have b178 := b171.trans (hb176.mono (Nat.le_trans hBw b171.size))
   have r179 := r172.below hb176
   have f180 := (MO.below f173 hb176)
   have f181 := (Kp.trans f174 (Kp.of_below hb176))
   refine ⟨⟨b178, r179, f180, f181⟩, ?_⟩
   refine fw_tq 10 rfl rfl ?_
   refine fw_tq 11 rfl rfl ?_
   rcases Bool.eq_false_or_eq_true ((decide (0 < (sentv cI)))) with hb_182 | hb_182
   ·skip
    refine fw_kh 116 rfl hb_182 ?_
    refine fw_tq 12 rfl rfl ?_
    refine fw_tq 13 rfl rfl ?_
    refine fw_tq 14 rfl rfl ?_
    refine fw_tq 15 rfl rfl ?_
    refine fw_tq 16 rfl rfl ?_
    refine fw_tq 17 rfl rfl ?_
    refine fw_tq 18 rfl rfl ?_
    refine fw_tq 19 rfl rfl ?_
    refine fw_tq 20 rfl rfl ?_
    refine fw_tq 21 rfl rfl ?_
    refine fw_tq 22 rfl rfl ?_
    refine fw_ht (by kernel_rfl) ?_
    refine fw_cT rfl rfl ?_
    refine fw_rg rfl ?_
    refine fw_pu rfl ?_
    refine fw_ca Try.func70 rfl rfl rfl ((cstart_any (n := 3) (Mch.mk (rf := false) (c := cI) (T := T) r179 hpsI hslI f180) (by decide) (by decide))) ?_
    rintro _ V183 ⟨rfl, hMz184, hKz184, hBz184⟩
    refine ⟨_, rfl, ?_⟩
    obtain ⟨c185, hc185⟩ : ∃ x, x = ({ cI with tm := tmS 3 } : EC) := ⟨_, rfl⟩
    rw [← hc185] at hMz184
    obtain ⟨aoz184, coz184, apz184, PLz184, cpz184, alz184, SLz184, clz184, hrz184, hpsz184, hslz184, hmoz184⟩ := Mch.opn hMz184
    have b186 := (b178.trans hBz184)
    have r187 := hrz184
    have f188 := hmoz184
    have f189 := (Kp.trans f181 (Kp.sub hKz184 (fun k hk => by simp [hk])))
    refine fw_dn ?_
    refine ⟨fun a h => ?_⟩
    exact bodyPost_end (v := .tuple #[]) (by simp [results, Try.results63]) h.df ⟨rfl, (by have h0 := (Mch.mk (rf := false) (c := c185) (T := T) r187 hpsz184 hslz184 f188); simp only [hc185] at h0; rw [pumpS_eq hb_7 hPP (pumpF_no1 hb_30)]; show Mch B H q false (pumpT _) _ T _; rw [pumpT_yes (c := cI) hb_175 (by rw [hb_182]; rfl)]; exact h0), f189, b186⟩
   refine fw_kh 116 rfl hb_182 ?_
   refine fw_tq 12 rfl rfl ?_
   refine fw_tq 14 rfl rfl ?_
   refine fw_tq 15 rfl rfl ?_
   refine fw_tq 16 rfl rfl ?_
   refine fw_tq 17 rfl rfl ?_
   refine fw_tl 18 (fun _ h => h.2.1) rfl rfl rfl (by kernel_rfl) (fun _ _ _ _ _ h => h) ?_
   refine fw_tq 19 rfl rfl ?_
   refine fw_o1 13 (by kernel_rfl) ?_
   refine fw_oc rfl Try.func82 rfl rfl rfl (sent_any q cI _ _ _ V177 r179) ?_
   rintro _ V191 ⟨rfl, hb190⟩
   refine ⟨(.int .i64 (sentv cI)), rfl, ?_⟩
   have b192 := b178.trans (hb190.mono (Nat.le_trans hBw b178.size))
   have r193 := r179.below hb190
   have f194 := (MO.below f180 hb190)
   have f195 := (Kp.trans f181 (Kp.of_below hb190))
   refine ⟨⟨b192, r193, f194, f195⟩, ?_⟩
   refine fw_tq 20 rfl rfl ?_
   refine fw_tq 21 rfl rfl ?_
   refine fw_tq 22 rfl rfl ?_
   refine fw_ht (by kernel_rfl) ?_
   rcases Bool.eq_false_or_eq_true ((decide ((sentv cI) < ((cI.out.length : Nat) : Int)))) with hb_196 | hb_196
   ·skip
    refine fw_cT rfl hb_196 ?_
    refine fw_rg rfl ?_
    refine fw_pu rfl ?_
    refine fw_ca Try.func70 rfl rfl rfl ((cstart_any (n := 3) (Mch.mk (rf := false) (c := cI) (T := T) r193 hpsI hslI f194) (by decide) (by decide))) ?_
    rintro _ V197 ⟨rfl, hMz198, hKz198, hBz198⟩
    refine ⟨_, rfl, ?_⟩
    obtain ⟨c199, hc199⟩ : ∃ x, x = ({ cI with tm := tmS 3 } : EC) := ⟨_, rfl⟩
    rw [← hc199] at hMz198
    obtain ⟨aoz198, coz198, apz198, PLz198, cpz198, alz198, SLz198, clz198, hrz198, hpsz198, hslz198, hmoz198⟩ := Mch.opn hMz198
    have b200 := (b192.trans hBz198)
    have r201 := hrz198
    have f202 := hmoz198
    have f203 := (Kp.trans f195 (Kp.sub hKz198 (fun k hk => by simp [hk])))
    refine fw_dn ?_
    refine ⟨fun a h => ?_⟩
    exact bodyPost_end (v := .tuple #[]) (by simp [results, Try.results63]) h.df ⟨rfl, (by have h0 := (Mch.mk (rf := false) (c := c199) (T := T) r201 hpsz198 hslz198 f202); simp only [hc199] at h0; rw [pumpS_eq hb_7 hPP (pumpF_no1 hb_30)]; show Mch B H q false (pumpT _) _ T _; rw [pumpT_yes (c := cI) hb_175 (by rw [hb_182, Bool.false_or]; exact hb_196)]; exact h0), f203, b200⟩
   refine fw_cF rfl hb_196 ?_
   refine fw_sk ?_
   refine ⟨fun a h => ?_⟩
   exact bodyPost_end (v := .tuple #[]) (by simp [results, Try.results63]) h.df ⟨rfl, (by have h0 := (Mch.mk (rf := false) (c := cI) (T := T) r193 hpsI hslI f194); rw [pumpS_eq hb_7 hPP (pumpF_no1 hb_30)]; show Mch B H q false (pumpT _) _ T _; rw [pumpT_no2 (c := cI) (by rw [hb_182, Bool.false_or]; exact hb_196)]; exact h0), f195, b192⟩
  refine fw_cF rfl hb_23 ?_
  refine fw_sk ?_
  refine fw_th ?_
  have hnp : ¬ pumpN cI ≤ 0 := of_decide_eq_false hb_23
  have hnb := pumpN_bd cI
  have hsa := sent_add (c := cI) (n := pumpN cI) hs0 (by omega) (by omega)
  refine fw_sq ?_
  refine fw_hr (fun X => Below B w X) (by kernel_rfl) 17 rfl ?_
  intro W204 s205
  have b206 := b19.trans (s205.mono (Nat.le_trans hBw b19.size))
  have r207 := r20.below s205
  have f208 := (MO.below f21 s205)
  have f209 := (Kp.trans f22 (Kp.of_below s205))
  refine ⟨b206, ?_⟩
  refine fw_tq 0 rfl rfl ?_
  refine fw_tq 1 rfl rfl ?_
  refine fw_tq 2 rfl rfl ?_
  refine fw_tq 3 rfl rfl ?_
  refine fw_tq 4 rfl rfl ?_
  refine fw_tq 6 rfl rfl ?_
  refine fw_tq 7 rfl rfl ?_
  refine fw_tq 8 rfl rfl ?_
  refine fw_tq 9 rfl rfl ?_
  refine fw_tq 11 rfl rfl ?_
  refine fw_tq 12 rfl rfl ?_
  refine fw_tq 13 rfl rfl ?_
  refine fw_tx 14 44 (.int .i64 ((sentv cI) + (pumpN cI))) rfl rfl rfl rfl (fun a h W hW => by have b206 := hW; exact (run_binOp (h.ev rfl) (h.ev rfl) (by simp [go_sem]) (addIw _ _ _ _ (by (first | rfl | omega | (have := hnb; omega) | (have := hwin; omega))) (by (first | rfl | omega | (have := hnb; omega) | (have := hwin; omega))) (by (first | rfl | omega | (have := hnb; omega) | (have := hwin; omega)))))) (by kernel_rfl) (fun _ _ _ _ _ h => h) ?_
  refine fw_o2 5 10 (by kernel_rfl) ?_ ?_
  ·skip
   refine fw_ol rfl r207 rfl rfl ?_
   refine fw_o1 10 (by kernel_rfl) ?_
   refine fw_ol rfl r207 rfl rfl ?_
   obtain ⟨vsl, hslr, hvs⟩ := slice_int (Sl.of_own (MO.facts f208).2.2.2.2.2).1 (sentv cI) (sentv cI + pumpN cI) (by omega) (by omega) (by omega)
   have hvs2 : Sl W204 vsl ((cI.out.drop (sentv cI).toNat).take (pumpN cI).toNat) := by rwa [show sentv cI + pumpN cI - sentv cI = pumpN cI by omega] at hvs
   refine fw_tx 15 45 (vsl) rfl rfl rfl rfl (fun a h W hW => by have b206 := hW; exact (run_sliceOp2 (h.ev rfl) (h.ev rfl) (h.ev rfl) (hslr _))) (by kernel_rfl) (fun _ _ _ _ _ h => h) ?_
   refine fw_o1 16 (by kernel_rfl) ?_
   refine fw_oc rfl Try.func71 rfl rfl rfl ((send_any (sq := cI.nxt) (fl := 24) (Mch.mk (rf := false) (c := cI) (T := T) r207 hpsI hslI f208) hvs2 (by simp only [List.length_take]; omega) (by omega))) ?_
   rintro _ V210 ⟨rfl, hMz211, hKz211, hBz211⟩
   refine ⟨_, rfl, ?_⟩
   obtain ⟨l212, hl212⟩ : ∃ x, x = (lI ++ [mkS cI cI.nxt 24 ((cI.out.drop (sentv cI).toNat).take (pumpN cI).toNat)]) := ⟨_, rfl⟩
   rw [← hl212] at hMz211
   obtain ⟨aoz211, coz211, apz211, PLz211, cpz211, alz211, SLz211, clz211, hrz211, hpsz211, hslz211, hmoz211⟩ := Mch.opn hMz211
   have b213 := (b206.trans hBz211)
   have r214 := hrz211
   have f215 := hmoz211
   have f216 := (Kp.trans f209 (Kp.sub hKz211 (fun k hk => by simp [hk])))
   refine ⟨b213, ?_⟩
   refine fw_ht (by kernel_rfl) ?_
   refine fw_fg [(0, _), (3, _)] ⟨rfl, rfl, trivial⟩ ?_
   refine fw_rg rfl ?_
   iterate 5 refine fw_pu rfl ?_
   refine fw_ld r214 rfl rfl ?_
   refine fw_pu rfl ?_
   refine fw_cv (fun v X => v = (.int .i64 (addv cI.nxt (pumpN cI))) ∧ V210 = X) Try.func54 rfl rfl rfl (((spanAdd_any cI.nxt (pumpN cI) V210)).mono fun e X h => ⟨_, h.1, rfl, h.2⟩) ?_
   rintro _ _ ⟨rfl, rfl⟩
   iterate 3 refine fw_pu rfl ?_
   refine fw_st r214 rfl rfl ?_
   intro W217 s218 r219
   have b220 := below_chg b213 s218 (by omega) (Nat.le_trans hBw b213.size)
   have f221 := (MO.chg f215 s218 (.inl rfl))
   have f222 := (Kp.chg f216 s218 hqH)
   refine fw_dn ?_
   refine fw_bn ?_
   obtain ⟨f0, rfl⟩ : ∃ k, N = k + 1 := ⟨N - 1, by omega⟩
   exact fw_th (fw_gf (hK10 _ _ _ (by omega) ⟨f0, ({ cI with nxt := (addv cI.nxt (pumpN cI)) } : EC), l212, aoz211, coz211, apz211, PLz211, cpz211, alz211, SLz211, clz211, rfl, (by rw [hl212]; exact (pumpL_go hnp).symm.trans hP), (by rw [hsa]; omega), (by rw [hsa]; show _ ≤ (cI.out.length : Int); omega), (by rw [hsa]; show (cI.out.length : Int) - _ < _; omega), (by rw [hl212, List.length_append, List.length_singleton]; omega), hol2, hwin, hpsz211, hslz211, rfl, b220, r219, f221, f222⟩) ⟨rfl, trivial⟩)
  refine fw_ol rfl r207 rfl rfl ?_
  obtain ⟨vsl, hslr, hvs⟩ := slice_int (Sl.of_own (MO.facts f208).2.2.2.2.2).1 (sentv cI) (sentv cI + pumpN cI) (by omega) (by omega) (by omega)
  have hvs2 : Sl W204 vsl ((cI.out.drop (sentv cI).toNat).take (pumpN cI).toNat) := by rwa [show sentv cI + pumpN cI - sentv cI = pumpN cI by omega] at hvs
  refine fw_tx 15 45 (vsl) rfl rfl rfl rfl (fun a h W hW => by have b206 := hW; exact (run_sliceOp2 (h.ev rfl) (h.ev rfl) (h.ev rfl) (hslr _))) (by kernel_rfl) (fun _ _ _ _ _ h => h) ?_
  refine fw_o1 5 (by kernel_rfl) ?_
  refine fw_ol rfl r207 rfl rfl ?_
  refine fw_o1 16 (by kernel_rfl) ?_
  refine fw_oc rfl Try.func71 rfl rfl rfl ((send_any (sq := cI.nxt) (fl := 24) (Mch.mk (rf := false) (c := cI) (T := T) r207 hpsI hslI f208) hvs2 (by simp only [List.length_take]; omega) (by omega))) ?_
  rintro _ V223 ⟨rfl, hMz224, hKz224, hBz224⟩
  refine ⟨_, rfl, ?_⟩
  obtain ⟨l225, hl225⟩ : ∃ x, x = (lI ++ [mkS cI cI.nxt 24 ((cI.out.drop (sentv cI).toNat).take (pumpN cI).toNat)]) := ⟨_, rfl⟩
  rw [← hl225] at hMz224
  obtain ⟨aoz224, coz224, apz224, PLz224, cpz224, alz224, SLz224, clz224, hrz224, hpsz224, hslz224, hmoz224⟩ := Mch.opn hMz224
  have b226 := (b206.trans hBz224)
  have r227 := hrz224
  have f228 := hmoz224
  have f229 := (Kp.trans f209 (Kp.sub hKz224 (fun k hk => by simp [hk])))
  refine ⟨b226, ?_⟩
  refine fw_ht (by kernel_rfl) ?_
  refine fw_fg [(0, _), (3, _)] ⟨rfl, rfl, trivial⟩ ?_
  refine fw_rg rfl ?_
  iterate 5 refine fw_pu rfl ?_
  refine fw_ld r227 rfl rfl ?_
  refine fw_pu rfl ?_
  refine fw_cv (fun v X => v = (.int .i64 (addv cI.nxt (pumpN cI))) ∧ V223 = X) Try.func54 rfl rfl rfl (((spanAdd_any cI.nxt (pumpN cI) V223)).mono fun e X h => ⟨_, h.1, rfl, h.2⟩) ?_
  rintro _ _ ⟨rfl, rfl⟩
  iterate 3 refine fw_pu rfl ?_
  refine fw_st r227 rfl rfl ?_
  intro W230 s231 r232
  have b233 := below_chg b226 s231 (by omega) (Nat.le_trans hBw b226.size)
  have f234 := (MO.chg f228 s231 (.inl rfl))
  have f235 := (Kp.chg f229 s231 hqH)
  refine fw_dn ?_
  refine fw_bn ?_
  obtain ⟨f0, rfl⟩ : ∃ k, N = k + 1 := ⟨N - 1, by omega⟩
  exact fw_th (fw_gf (hK10 _ _ _ (by omega) ⟨f0, ({ cI with nxt := (addv cI.nxt (pumpN cI)) } : EC), l225, aoz224, coz224, apz224, PLz224, cpz224, alz224, SLz224, clz224, rfl, (by rw [hl225]; exact (pumpL_go hnp).symm.trans hP), (by rw [hsa]; omega), (by rw [hsa]; show _ ≤ (cI.out.length : Int); omega), (by rw [hsa]; show (cI.out.length : Int) - _ < _; omega), (by rw [hl225, List.length_append, List.length_singleton]; omega), hol2, hwin, hpsz224, hslz224, rfl, b233, r232, f234, f235⟩) ⟨rfl, trivial⟩)
 refine fw_cT rfl (not_of hb_7) ?_
 refine fw_rt ?_
 refine fw_tr ?_
 refine ⟨fun a h => ?_⟩
 exact bodyPost_ret (v := .tuple #[]) (by simp [results, Try.results63]) h.df ⟨rfl, (by have h0 := (Mch.mk (rf := false) (c := c) (T := T) r4 hps hsl f5); rw [pumpS_no hb_7]; exact h0), f6, b3⟩

theorem back_yes {t : Tm} (h : tv t = true) (hon : t.on = true) (ht : (t.tries == 8) = true) (w : World) : Calls Try.prog 85 #[.agg #[.bool t.on, .int .i64 t.left, .int .i64 t.wait, .int .i64 t.tries]] w fun e w' => e = .returned (.tuple #[.agg #[.bool false, .int .i64 0, .int .i64 0, .int .i64 0], .int .i64 6]) ∧ Below w.heap.size w w' := by
  have h1 : t.tries = 8 := by simpa using ht
  exact (back_any t w h hon).mono fun e X h2 => ⟨h2.1.trans (by rw [if_pos h1, if_pos h1]; rfl), h2.2⟩
theorem back_no {t : Tm} (h : tv t = true) (hon : t.on = true) (ht : (t.tries == 8) = false) (w : World) : Calls Try.prog 85 #[.agg #[.bool t.on, .int .i64 t.left, .int .i64 t.wait, .int .i64 t.tries]] w fun e w' => e = .returned (.tuple #[.agg #[.bool t.on, .int .i64 (backw t.wait), .int .i64 (backw t.wait), .int .i64 (t.tries + 1)], .int .i64 0]) ∧ Below w.heap.size w w' := by
  have h1 : ¬ t.tries = 8 := by simpa using ht
  exact (back_any t w h hon).mono fun e X h2 => ⟨h2.1.trans (by rw [if_neg h1, if_neg h1]; rfl), h2.2⟩
theorem neqEb (w : World) (s t : Int) (b : Bool) (h : (s == t) = !b) : (binOp .neq 32 (.int .i64 s) (.int .i64 t)).run Try.prog w = .ok (.bool b) w := by
  have e : (binOp .neq 32 (.int .i64 s) (.int .i64 t)).run Try.prog w = .ok (.bool (!(s == t))) w := by simp [go_sem, bne]
  rw [e, h, Bool.not_not]
set_option maxRecDepth 100000 in
set_option maxHeartbeats 4000000 in
theorem expire_any {B q : Nat} {H : List Nat} {c : EC} {l : List ES} {T : Td} {w : World} (hM : Mch B H q false c l T w) (hlen : l.length ≤ 1000) (hol : c.out.length ≤ 8192) (htv : tv c.tm = true) (hon : c.tm.on = true) :
    Does 65 #[.pointer (some ⟨q, 0, none⟩)] B H q false (.tuple #[]) (expireS c l).1 (expireS c l).2 T w := by
 obtain ⟨ao, co, ap, PL, cp, al, SL, cl, hr, hps, hsl, hmo⟩ := hM.opn
 have hBw : B ≤ w.heap.size := hmo.facts.2.1
 have hBq : B ≤ q := hmo.facts.1
 have hqw : q < w.heap.size := hmo.facts.2.2.1
 have hqH : q ∉ H := hmo.facts.2.2.2.1
 have HHlt := Lib.hid hmo.facts.2.2.2.2.1
 have hkp := Kp.refl H w
 have hb0 := Below.refl B w
 replace hr : RowAt w q [.int .i64 c.link, .int .i64 c.ip, .int .i64 c.pp, .int .i64 c.po, .int .i64 c.st, .int .i64 c.una, .int .i64 c.nxt, .int .i64 c.win, .slice ao c.out.length co, .int .i64 c.rn, .slice ap PL.length cp, .bool c.cl, .bool c.tm.on, .int .i64 c.tm.left, .int .i64 c.tm.wait, .int .i64 c.tm.tries, .slice al SL.length cl] := hr
 unfold Does
 refine fw_en 126 [(0, .pointer (some ⟨q, 0, none⟩))] Try.func65 rfl Try.ntmps65 rfl ⟨rfl, trivial⟩ ?_
 refine fw_sq ?_
 refine fw_sq ?_
 refine fw_rg rfl ?_
 iterate 4 refine fw_pu rfl ?_
 refine fw_ld hr rfl rfl ?_
 refine fw_pu rfl ?_
 refine fw_dt ?_
 rcases Bool.eq_false_or_eq_true ((c.st == 8)) with hb_1 | hb_1
 ·skip
  refine fw_cT rfl hb_1 ?_
  refine fw_sq ?_
  refine fw_rg rfl ?_
  refine fw_pu rfl ?_
  refine fw_ca Try.func84 rfl rfl rfl ((shut_any (Mch.mk (rf := false) (c := c) (T := T) hr hps hsl hmo))) ?_
  rintro _ V2 ⟨rfl, hMz3, hKz3, hBz3⟩
  refine ⟨_, rfl, ?_⟩
  obtain ⟨c4, hc4⟩ : ∃ x, x = (shutC c) := ⟨_, rfl⟩
  rw [← hc4] at hMz3
  obtain ⟨aoz3, coz3, apz3, PLz3, cpz3, alz3, SLz3, clz3, hrz3, hpsz3, hslz3, hmoz3⟩ := Mch.opn hMz3
  have b5 := (hb0.trans hBz3)
  have r6 := hrz3
  have f7 := hmoz3
  have f8 := (Kp.trans hkp (Kp.sub hKz3 (fun k hk => by simp [hk])))
  refine fw_dt ?_
  refine fw_rt ?_
  refine fw_tr ?_
  refine ⟨fun a h => ?_⟩
  exact bodyPost_ret (v := .tuple #[]) (by simp [results, Try.results65]) h.df ⟨rfl, (by have h0 := (Mch.mk (rf := false) (c := c4) (T := T) r6 hpsz3 hslz3 f7); simp only [hc4] at h0; unfold expireS; rw [if_pos (by have h := hb_1; simpa using h)]; exact h0), f8, b5⟩
 refine fw_cF rfl hb_1 ?_
 refine fw_sk ?_
 refine fw_th ?_
 refine fw_sq ?_
 rcases Bool.eq_false_or_eq_true ((c.tm.tries == 8)) with hb_9 | hb_9
 ·skip
  refine fw_rg rfl ?_
  iterate 4 refine fw_pu rfl ?_
  refine fw_ld hr rfl rfl ?_
  refine fw_cv (fun v X => v = (.tuple #[.agg #[.bool false, .int .i64 0, .int .i64 0, .int .i64 0], .int .i64 6]) ∧ Below w.heap.size w X) Try.func85 rfl rfl rfl ((back_yes htv hon hb_9 w).mono fun e X h => ⟨_, h.1, rfl, h.2⟩) ?_
  rintro _ V11 ⟨rfl, hb10⟩
  have b12 := hb0.trans (hb10.mono (Nat.le_trans hBw hb0.size))
  have r13 := hr.below hb10
  have f14 := (MO.below hmo hb10)
  have f15 := (Kp.trans hkp (Kp.of_below hb10))
  iterate 3 refine fw_pu rfl ?_
  refine fw_al (t := 60) (u := fun q => .pointer (some ⟨q, 0, none⟩)) 2 [.bool false, .int .i64 0, .int .i64 0, .int .i64 0] rfl rfl rfl (fun a h => (run_allocOp (by simp [go_sem, Instr.alloc]))) ?_
  intro q16 W17 g20 s18 r19
  have := Nat.le_trans (Nat.le_trans hBw b12.size) g20
  have := r13.lt g20
  have hnH_q16 : q16 ∉ H := fun hk => by have h0 := HHlt.out q16 hk; have h1 := f15.size; omega
  have b21 := b12.trans (s18.mono (Nat.le_trans hBw b12.size))
  have r22 := r13.below s18
  have f23 := (MO.hold f14 s18 g20 r19.2.2)
  have f24 := (Kp.trans f15 (Kp.of_below s18))
  refine fw_st r19 rfl rfl ?_
  intro W25 s26 r27
  have b28 := below_chg b21 s26 (by omega) (Nat.le_trans hBw b21.size)
  have r29 := r22.chg s26 (by omega)
  have f30 := (MO.chg f23 s26 (.inr (by simp)))
  have f31 := (Kp.chg f24 s26 hnH_q16)
  refine fw_pu rfl ?_
  refine fw_dt ?_
  refine fw_sq ?_
  refine fw_sq ?_
  refine fw_rg rfl ?_
  refine fw_pu rfl ?_
  refine fw_ex 23 (.bool true) rfl rfl rfl (fun a h => (run_binOp (h.ev rfl) (h.ev rfl) (eqIntI _ _ _ _ _ _ _) (neqEb _ _ _ true (by decide)))) ?_
  refine fw_dt ?_
  refine fw_cT rfl rfl ?_
  refine fw_sq ?_
  refine fw_rg rfl ?_
  refine fw_pu rfl ?_
  refine fw_ca Try.func86 rfl rfl rfl ((abort_any (Mch.mk (rf := false) (c := c) (T := T) r29 hps hsl f30) (by omega))) ?_
  rintro _ V32 ⟨rfl, hMz33, hKz33, hBz33⟩
  refine ⟨_, rfl, ?_⟩
  obtain ⟨l34, hl34⟩ : ∃ x, x = (abortS c l).2 := ⟨_, rfl⟩
  rw [← hl34] at hMz33
  obtain ⟨c35, hc35⟩ : ∃ x, x = (abortS c l).1 := ⟨_, rfl⟩
  rw [← hc35] at hMz33
  obtain ⟨aoz33, coz33, apz33, PLz33, cpz33, alz33, SLz33, clz33, hrz33, hpsz33, hslz33, hmoz33⟩ := Mch.opn hMz33
  have b36 := (b28.trans hBz33)
  have r37 := hrz33
  have f39 := hmoz33
  have f40 := (Kp.trans f31 (Kp.sub hKz33 (fun k hk => by simp [hk])))
  refine fw_dt ?_
  refine fw_rt ?_
  refine fw_tr ?_
  refine ⟨fun a h => ?_⟩
  exact bodyPost_ret (v := .tuple #[]) (by simp [results, Try.results65]) h.df ⟨rfl, (by have h0 := (Mch.subH (H := H) (Mch.mk (rf := false) (c := c35) (T := T) r37 hpsz33 hslz33 f39) (fun k hk => by simp [hk])); simp only [hc35, hl34] at h0; unfold expireS; rw [if_neg (by have h := hb_1; simpa using h), if_pos (by have h := hb_9; simpa using h)]; exact h0), f40, b36⟩
 refine fw_rg rfl ?_
 iterate 4 refine fw_pu rfl ?_
 refine fw_ld hr rfl rfl ?_
 refine fw_cv (fun v X => v = (.tuple #[.agg #[.bool c.tm.on, .int .i64 (backw c.tm.wait), .int .i64 (backw c.tm.wait), .int .i64 (c.tm.tries + 1)], .int .i64 0]) ∧ Below w.heap.size w X) Try.func85 rfl rfl rfl ((back_no htv hon hb_9 w).mono fun e X h => ⟨_, h.1, rfl, h.2⟩) ?_
 rintro _ V42 ⟨rfl, hb41⟩
 have b43 := hb0.trans (hb41.mono (Nat.le_trans hBw hb0.size))
 have r44 := hr.below hb41
 have f45 := (MO.below hmo hb41)
 have f46 := (Kp.trans hkp (Kp.of_below hb41))
 iterate 3 refine fw_pu rfl ?_
 refine fw_al (t := 60) (u := fun q => .pointer (some ⟨q, 0, none⟩)) 2 [.bool false, .int .i64 0, .int .i64 0, .int .i64 0] rfl rfl rfl (fun a h => (run_allocOp (by simp [go_sem, Instr.alloc]))) ?_
 intro q47 W48 g51 s49 r50
 have := Nat.le_trans (Nat.le_trans hBw b43.size) g51
 have := r44.lt g51
 have hnH_q47 : q47 ∉ H := fun hk => by have h0 := HHlt.out q47 hk; have h1 := f46.size; omega
 have b52 := b43.trans (s49.mono (Nat.le_trans hBw b43.size))
 have r53 := r44.below s49
 have f54 := (MO.hold f45 s49 g51 r50.2.2)
 have f55 := (Kp.trans f46 (Kp.of_below s49))
 refine fw_st r50 rfl rfl ?_
 intro W56 s57 r58
 have b59 := below_chg b52 s57 (by omega) (Nat.le_trans hBw b52.size)
 have r60 := r53.chg s57 (by omega)
 have f61 := (MO.chg f54 s57 (.inr (by simp)))
 have f62 := (Kp.chg f55 s57 hnH_q47)
 refine fw_pu rfl ?_
 refine fw_dt ?_
 refine fw_sq ?_
 refine fw_sq ?_
 refine fw_rg rfl ?_
 refine fw_pu rfl ?_
 refine fw_ex 23 (.bool false) rfl rfl rfl (fun a h => (run_binOp (h.ev rfl) (h.ev rfl) (eqIntI _ _ _ _ _ _ _) (neqEb _ _ _ false (by decide)))) ?_
 refine fw_dt ?_
 refine fw_cF rfl rfl ?_
 refine fw_sk ?_
 refine fw_th ?_
 refine fw_sq ?_
 refine fw_rg rfl ?_
 refine fw_pu rfl ?_
 refine fw_ld r58 rfl rfl ?_
 iterate 3 refine fw_pu rfl ?_
 refine fw_st r60 rfl rfl ?_
 intro W63 s64 r65
 have b66 := below_chg b59 s64 (by omega) (Nat.le_trans hBw b59.size)
 have r67 := r58.chg s64 (by omega)
 have f68 := (MO.chg f61 s64 (.inl rfl))
 have f69 := (Kp.chg f62 s64 hqH)
 refine fw_dt ?_
 refine fw_sq ?_
 refine fw_rg rfl ?_
 refine fw_pu rfl ?_
 refine fw_ca Try.func82 rfl rfl rfl (sent_any q ({ c with tm := (backv c.tm) } : EC) _ _ _ W63 r65) ?_
 rintro _ V71 ⟨rfl, hb70⟩
 refine ⟨(.int .i64 (sentv c)), rfl, ?_⟩
 have b72 := b66.trans (hb70.mono (Nat.le_trans hBw b66.size))
 have r73 := r65.below hb70
 have r74 := r67.below hb70
 have f75 := (MO.below f68 hb70)
 have f76 := (Kp.trans f69 (Kp.of_below hb70))
 refine fw_pu rfl ?_
 refine fw_dt ?_
 refine fw_bk ?_
 refine fw_sq ?_
 refine fw_rg rfl ?_
 iterate 4 refine fw_pu rfl ?_
 refine fw_ld r73 rfl rfl ?_
 iterate 2 refine fw_pu rfl ?_
 refine fw_dt ?_
 refine fw_fg [(0, _), (4, _), (38, _)] ⟨rfl, rfl, rfl, trivial⟩ ?_
 rcases Bool.eq_false_or_eq_true ((c.st == 1)) with hb_77 | hb_77
 ·skip
  refine fw_cT rfl hb_77 ?_
  refine fw_rg rfl ?_
  iterate 5 refine fw_pu rfl ?_
  refine fw_ld r73 rfl rfl ?_
  refine fw_ca Try.func71 rfl rfl rfl ((send_any (sq := c.una) (fl := 18) (D := []) (Mch.mk (rf := false) (c := ({ c with tm := (backv c.tm) } : EC)) (T := T) r73 hps hsl f75) (Sl_nil _) (by decide) (by omega))) ?_
  rintro _ V78 ⟨rfl, hMz79, hKz79, hBz79⟩
  refine ⟨_, rfl, ?_⟩
  obtain ⟨l80, hl80⟩ : ∃ x, x = (l ++ [mkS ({ c with tm := (backv c.tm) } : EC) c.una 18 []]) := ⟨_, rfl⟩
  rw [← hl80] at hMz79
  obtain ⟨c81, hc81⟩ : ∃ x, x = ({ c with tm := (backv c.tm) } : EC) := ⟨_, rfl⟩
  rw [← hc81] at hMz79
  obtain ⟨aoz79, coz79, apz79, PLz79, cpz79, alz79, SLz79, clz79, hrz79, hpsz79, hslz79, hmoz79⟩ := Mch.opn hMz79
  have b82 := (b72.trans hBz79)
  have r83 := hrz79
  have f85 := hmoz79
  have f86 := (Kp.trans f76 (Kp.sub hKz79 (fun k hk => by simp [hk])))
  refine fw_dn ?_
  refine fw_bn ?_
  refine ⟨fun a h => ?_⟩
  exact bodyPost_end (v := .tuple #[]) (by simp [results, Try.results65]) h.df ⟨rfl, (by have h0 := (Mch.subH (H := H) (Mch.mk (rf := false) (c := c81) (T := T) r83 hpsz79 hslz79 f85) (fun k hk => by simp [hk])); simp only [hc81, hl80] at h0; unfold expireS; rw [if_neg (by have h := hb_1; simpa using h), if_neg (by have h := hb_9; simpa using h), if_pos (by have h := hb_77; simpa using h)]; exact h0), f86, b82⟩
 refine fw_cF rfl hb_77 ?_
 refine fw_sq ?_
 refine fw_rg rfl ?_
 iterate 3 refine fw_pu rfl ?_
 rcases Bool.eq_false_or_eq_true ((decide (0 < (sentv c)))) with hb_87 | hb_87
 ·skip
  refine fw_kn 55 rfl hb_87 ?_
  iterate 4 refine fw_pu rfl ?_
  refine fw_ld r73 rfl rfl ?_
  iterate 4 refine fw_pu rfl ?_
  refine fw_dt ?_
  rcases Bool.eq_false_or_eq_true ((decide (0 < ((c.out.length : Nat) : Int)))) with hb_88 | hb_88
  ·skip
   refine fw_cT rfl hb_88 ?_
   have hsn0 : 0 < sentv c := of_decide_eq_true hb_87
   refine fw_hr (fun X => Below B w X ∧ RowAt X q47 [.bool c.tm.on, .int .i64 (backw c.tm.wait), .int .i64 (backw c.tm.wait), .int .i64 (c.tm.tries + 1)]) (by kernel_rfl) 21 rfl ?_
   intro W89 s90
   have b91 := b72.trans (s90.mono (Nat.le_trans hBw b72.size))
   have r92 := r73.below s90
   have r93 := r74.below s90
   have f94 := (MO.below f75 s90)
   have f95 := (Kp.trans f76 (Kp.of_below s90))
   refine ⟨⟨b91, r93⟩, ?_⟩
   refine fw_tq 0 rfl rfl ?_
   refine fw_tq 1 rfl rfl ?_
   refine fw_tq 2 rfl rfl ?_
   refine fw_tq 3 rfl rfl ?_
   refine fw_tq 4 rfl rfl ?_
   refine fw_tq 6 rfl rfl ?_
   refine fw_tq 7 rfl rfl ?_
   refine fw_tq 8 rfl rfl ?_
   refine fw_tq 9 rfl rfl ?_
   refine fw_tq 11 rfl rfl ?_
   refine fw_tq 12 rfl rfl ?_
   refine fw_tq 13 rfl rfl ?_
   refine fw_tq 14 rfl rfl ?_
   refine fw_tq 15 rfl rfl ?_
   refine fw_o3 5 10 16 (by kernel_rfl) ?_ ?_ ?_
   ·skip
    refine fw_ol rfl r92 rfl rfl ?_
    refine fw_o2 10 16 (by kernel_rfl) ?_ ?_
    ·skip
     refine fw_ol rfl r92 rfl rfl ?_
     refine fw_o1 16 (by kernel_rfl) ?_
     refine fw_ol rfl r92 rfl rfl ?_
     refine fw_tq 17 rfl rfl ?_
     refine fw_tx 18 82 (.int .i64 (min 536 (min (sentv c) ((c.out.length : Nat) : Int)))) rfl rfl rfl rfl (fun a h W hW => by obtain ⟨b91, r93⟩ := hW; exact (run_min3 (h.ev rfl) (h.ev rfl) (h.ev rfl) (by omega))) (by kernel_rfl) (fun _ _ _ _ _ h => h) ?_
     obtain ⟨vsl, hslr, hvs⟩ := slice_toI (Sl.of_own (MO.facts f94).2.2.2.2.2).1 (min 536 (min (sentv c) ((c.out.length : Nat) : Int))) (by omega) (by omega)
     refine fw_tx 19 83 (vsl) rfl rfl rfl rfl (fun a h W hW => by obtain ⟨b91, r93⟩ := hW; exact (run_sliceOp1 (h.ev rfl) (h.ev rfl) (hslr _))) (by kernel_rfl) (fun _ _ _ _ _ h => h) ?_
     refine fw_o1 20 (by kernel_rfl) ?_
     refine fw_oc rfl Try.func71 rfl rfl rfl ((send_any (sq := c.una) (fl := 24) (Mch.mk (rf := false) (c := ({ c with tm := (backv c.tm) } : EC)) (T := T) r92 hps hsl f94) hvs (by simp only [List.length_take]; omega) (by omega))) ?_
     rintro _ V96 ⟨rfl, hMz97, hKz97, hBz97⟩
     refine ⟨_, rfl, ?_⟩
     obtain ⟨l98, hl98⟩ : ∃ x, x = (l ++ [mkS ({ c with tm := (backv c.tm) } : EC) c.una 24 (c.out.take ((min 536 (min (sentv c) ((c.out.length : Nat) : Int))) : Int).toNat)]) := ⟨_, rfl⟩
     rw [← hl98] at hMz97
     obtain ⟨c99, hc99⟩ : ∃ x, x = ({ c with tm := (backv c.tm) } : EC) := ⟨_, rfl⟩
     rw [← hc99] at hMz97
     obtain ⟨aoz97, coz97, apz97, PLz97, cpz97, alz97, SLz97, clz97, hrz97, hpsz97, hslz97, hmoz97⟩ := Mch.opn hMz97
     have b100 := (b91.trans hBz97)
     have r101 := hrz97
     have r102 := (Kp.row hKz97 (by simp) r93)
     have f103 := hmoz97
     have f104 := (Kp.trans f95 (Kp.sub hKz97 (fun k hk => by simp [hk])))
     refine ⟨⟨b100, r102⟩, ?_⟩
     refine fw_hz (by kernel_rfl) ?_
     refine fw_bn ?_
     refine ⟨fun a h => ?_⟩
     exact bodyPost_end (v := .tuple #[]) (by simp [results, Try.results65]) h.df ⟨rfl, (by have h0 := (Mch.subH (H := H) (Mch.mk (rf := false) (c := c99) (T := T) r101 hpsz97 hslz97 f103) (fun k hk => by simp [hk])); simp only [hc99, hl98] at h0; unfold expireS; rw [if_neg (by have h := hb_1; simpa using h), if_neg (by have h := hb_9; simpa using h), if_neg (by have h := hb_77; simpa using h), if_pos (of_decide_eq_true hb_87), if_pos (by have h := hb_88; rw [decide_eq_true_eq] at h; omega)]; exact h0), f104, b100⟩
    refine fw_ol rfl r92 rfl rfl ?_
    refine fw_tq 17 rfl rfl ?_
    refine fw_tx 18 82 (.int .i64 (min 536 (min (sentv c) ((c.out.length : Nat) : Int)))) rfl rfl rfl rfl (fun a h W hW => by obtain ⟨b91, r93⟩ := hW; exact (run_min3 (h.ev rfl) (h.ev rfl) (h.ev rfl) (by omega))) (by kernel_rfl) (fun _ _ _ _ _ h => h) ?_
    refine fw_o1 10 (by kernel_rfl) ?_
    refine fw_ol rfl r92 rfl rfl ?_
    obtain ⟨vsl, hslr, hvs⟩ := slice_toI (Sl.of_own (MO.facts f94).2.2.2.2.2).1 (min 536 (min (sentv c) ((c.out.length : Nat) : Int))) (by omega) (by omega)
    refine fw_tx 19 83 (vsl) rfl rfl rfl rfl (fun a h W hW => by obtain ⟨b91, r93⟩ := hW; exact (run_sliceOp1 (h.ev rfl) (h.ev rfl) (hslr _))) (by kernel_rfl) (fun _ _ _ _ _ h => h) ?_
    refine fw_o1 20 (by kernel_rfl) ?_
    refine fw_oc rfl Try.func71 rfl rfl rfl ((send_any (sq := c.una) (fl := 24) (Mch.mk (rf := false) (c := ({ c with tm := (backv c.tm) } : EC)) (T := T) r92 hps hsl f94) hvs (by simp only [List.length_take]; omega) (by omega))) ?_
    rintro _ V105 ⟨rfl, hMz106, hKz106, hBz106⟩
    refine ⟨_, rfl, ?_⟩
    obtain ⟨l107, hl107⟩ : ∃ x, x = (l ++ [mkS ({ c with tm := (backv c.tm) } : EC) c.una 24 (c.out.take ((min 536 (min (sentv c) ((c.out.length : Nat) : Int))) : Int).toNat)]) := ⟨_, rfl⟩
    rw [← hl107] at hMz106
    obtain ⟨c108, hc108⟩ : ∃ x, x = ({ c with tm := (backv c.tm) } : EC) := ⟨_, rfl⟩
    rw [← hc108] at hMz106
    obtain ⟨aoz106, coz106, apz106, PLz106, cpz106, alz106, SLz106, clz106, hrz106, hpsz106, hslz106, hmoz106⟩ := Mch.opn hMz106
    have b109 := (b91.trans hBz106)
    have r110 := hrz106
    have r111 := (Kp.row hKz106 (by simp) r93)
    have f112 := hmoz106
    have f113 := (Kp.trans f95 (Kp.sub hKz106 (fun k hk => by simp [hk])))
    refine ⟨⟨b109, r111⟩, ?_⟩
    refine fw_hz (by kernel_rfl) ?_
    refine fw_bn ?_
    refine ⟨fun a h => ?_⟩
    exact bodyPost_end (v := .tuple #[]) (by simp [results, Try.results65]) h.df ⟨rfl, (by have h0 := (Mch.subH (H := H) (Mch.mk (rf := false) (c := c108) (T := T) r110 hpsz106 hslz106 f112) (fun k hk => by simp [hk])); simp only [hc108, hl107] at h0; unfold expireS; rw [if_neg (by have h := hb_1; simpa using h), if_neg (by have h := hb_9; simpa using h), if_neg (by have h := hb_77; simpa using h), if_pos (of_decide_eq_true hb_87), if_pos (by have h := hb_88; rw [decide_eq_true_eq] at h; omega)]; exact h0), f113, b109⟩
   ·skip
    refine fw_ol rfl r92 rfl rfl ?_
    refine fw_o2 5 16 (by kernel_rfl) ?_ ?_
    ·skip
     refine fw_ol rfl r92 rfl rfl ?_
     refine fw_o1 16 (by kernel_rfl) ?_
     refine fw_ol rfl r92 rfl rfl ?_
     refine fw_tq 17 rfl rfl ?_
     refine fw_tx 18 82 (.int .i64 (min 536 (min (sentv c) ((c.out.length : Nat) : Int)))) rfl rfl rfl rfl (fun a h W hW => by obtain ⟨b91, r93⟩ := hW; exact (run_min3 (h.ev rfl) (h.ev rfl) (h.ev rfl) (by omega))) (by kernel_rfl) (fun _ _ _ _ _ h => h) ?_
     obtain ⟨vsl, hslr, hvs⟩ := slice_toI (Sl.of_own (MO.facts f94).2.2.2.2.2).1 (min 536 (min (sentv c) ((c.out.length : Nat) : Int))) (by omega) (by omega)
     refine fw_tx 19 83 (vsl) rfl rfl rfl rfl (fun a h W hW => by obtain ⟨b91, r93⟩ := hW; exact (run_sliceOp1 (h.ev rfl) (h.ev rfl) (hslr _))) (by kernel_rfl) (fun _ _ _ _ _ h => h) ?_
     refine fw_o1 20 (by kernel_rfl) ?_
     refine fw_oc rfl Try.func71 rfl rfl rfl ((send_any (sq := c.una) (fl := 24) (Mch.mk (rf := false) (c := ({ c with tm := (backv c.tm) } : EC)) (T := T) r92 hps hsl f94) hvs (by simp only [List.length_take]; omega) (by omega))) ?_
     rintro _ V114 ⟨rfl, hMz115, hKz115, hBz115⟩
     refine ⟨_, rfl, ?_⟩
     obtain ⟨l116, hl116⟩ : ∃ x, x = (l ++ [mkS ({ c with tm := (backv c.tm) } : EC) c.una 24 (c.out.take ((min 536 (min (sentv c) ((c.out.length : Nat) : Int))) : Int).toNat)]) := ⟨_, rfl⟩
     rw [← hl116] at hMz115
     obtain ⟨c117, hc117⟩ : ∃ x, x = ({ c with tm := (backv c.tm) } : EC) := ⟨_, rfl⟩
     rw [← hc117] at hMz115
     obtain ⟨aoz115, coz115, apz115, PLz115, cpz115, alz115, SLz115, clz115, hrz115, hpsz115, hslz115, hmoz115⟩ := Mch.opn hMz115
     have b118 := (b91.trans hBz115)
     have r119 := hrz115
     have r120 := (Kp.row hKz115 (by simp) r93)
     have f121 := hmoz115
     have f122 := (Kp.trans f95 (Kp.sub hKz115 (fun k hk => by simp [hk])))
     refine ⟨⟨b118, r120⟩, ?_⟩
     refine fw_hz (by kernel_rfl) ?_
     refine fw_bn ?_
     refine ⟨fun a h => ?_⟩
     exact bodyPost_end (v := .tuple #[]) (by simp [results, Try.results65]) h.df ⟨rfl, (by have h0 := (Mch.subH (H := H) (Mch.mk (rf := false) (c := c117) (T := T) r119 hpsz115 hslz115 f121) (fun k hk => by simp [hk])); simp only [hc117, hl116] at h0; unfold expireS; rw [if_neg (by have h := hb_1; simpa using h), if_neg (by have h := hb_9; simpa using h), if_neg (by have h := hb_77; simpa using h), if_pos (of_decide_eq_true hb_87), if_pos (by have h := hb_88; rw [decide_eq_true_eq] at h; omega)]; exact h0), f122, b118⟩
    refine fw_ol rfl r92 rfl rfl ?_
    refine fw_tq 17 rfl rfl ?_
    refine fw_tx 18 82 (.int .i64 (min 536 (min (sentv c) ((c.out.length : Nat) : Int)))) rfl rfl rfl rfl (fun a h W hW => by obtain ⟨b91, r93⟩ := hW; exact (run_min3 (h.ev rfl) (h.ev rfl) (h.ev rfl) (by omega))) (by kernel_rfl) (fun _ _ _ _ _ h => h) ?_
    obtain ⟨vsl, hslr, hvs⟩ := slice_toI (Sl.of_own (MO.facts f94).2.2.2.2.2).1 (min 536 (min (sentv c) ((c.out.length : Nat) : Int))) (by omega) (by omega)
    refine fw_tx 19 83 (vsl) rfl rfl rfl rfl (fun a h W hW => by obtain ⟨b91, r93⟩ := hW; exact (run_sliceOp1 (h.ev rfl) (h.ev rfl) (hslr _))) (by kernel_rfl) (fun _ _ _ _ _ h => h) ?_
    refine fw_o1 5 (by kernel_rfl) ?_
    refine fw_ol rfl r92 rfl rfl ?_
    refine fw_o1 20 (by kernel_rfl) ?_
    refine fw_oc rfl Try.func71 rfl rfl rfl ((send_any (sq := c.una) (fl := 24) (Mch.mk (rf := false) (c := ({ c with tm := (backv c.tm) } : EC)) (T := T) r92 hps hsl f94) hvs (by simp only [List.length_take]; omega) (by omega))) ?_
    rintro _ V123 ⟨rfl, hMz124, hKz124, hBz124⟩
    refine ⟨_, rfl, ?_⟩
    obtain ⟨l125, hl125⟩ : ∃ x, x = (l ++ [mkS ({ c with tm := (backv c.tm) } : EC) c.una 24 (c.out.take ((min 536 (min (sentv c) ((c.out.length : Nat) : Int))) : Int).toNat)]) := ⟨_, rfl⟩
    rw [← hl125] at hMz124
    obtain ⟨c126, hc126⟩ : ∃ x, x = ({ c with tm := (backv c.tm) } : EC) := ⟨_, rfl⟩
    rw [← hc126] at hMz124
    obtain ⟨aoz124, coz124, apz124, PLz124, cpz124, alz124, SLz124, clz124, hrz124, hpsz124, hslz124, hmoz124⟩ := Mch.opn hMz124
    have b127 := (b91.trans hBz124)
    have r128 := hrz124
    have r129 := (Kp.row hKz124 (by simp) r93)
    have f130 := hmoz124
    have f131 := (Kp.trans f95 (Kp.sub hKz124 (fun k hk => by simp [hk])))
    refine ⟨⟨b127, r129⟩, ?_⟩
    refine fw_hz (by kernel_rfl) ?_
    refine fw_bn ?_
    refine ⟨fun a h => ?_⟩
    exact bodyPost_end (v := .tuple #[]) (by simp [results, Try.results65]) h.df ⟨rfl, (by have h0 := (Mch.subH (H := H) (Mch.mk (rf := false) (c := c126) (T := T) r128 hpsz124 hslz124 f130) (fun k hk => by simp [hk])); simp only [hc126, hl125] at h0; unfold expireS; rw [if_neg (by have h := hb_1; simpa using h), if_neg (by have h := hb_9; simpa using h), if_neg (by have h := hb_77; simpa using h), if_pos (of_decide_eq_true hb_87), if_pos (by have h := hb_88; rw [decide_eq_true_eq] at h; omega)]; exact h0), f131, b127⟩
   refine fw_ol rfl r92 rfl rfl ?_
   refine fw_tq 17 rfl rfl ?_
   refine fw_tx 18 82 (.int .i64 (min 536 (min (sentv c) ((c.out.length : Nat) : Int)))) rfl rfl rfl rfl (fun a h W hW => by obtain ⟨b91, r93⟩ := hW; exact (run_min3 (h.ev rfl) (h.ev rfl) (h.ev rfl) (by omega))) (by kernel_rfl) (fun _ _ _ _ _ h => h) ?_
   refine fw_o2 5 10 (by kernel_rfl) ?_ ?_
   ·skip
    refine fw_ol rfl r92 rfl rfl ?_
    refine fw_o1 10 (by kernel_rfl) ?_
    refine fw_ol rfl r92 rfl rfl ?_
    obtain ⟨vsl, hslr, hvs⟩ := slice_toI (Sl.of_own (MO.facts f94).2.2.2.2.2).1 (min 536 (min (sentv c) ((c.out.length : Nat) : Int))) (by omega) (by omega)
    refine fw_tx 19 83 (vsl) rfl rfl rfl rfl (fun a h W hW => by obtain ⟨b91, r93⟩ := hW; exact (run_sliceOp1 (h.ev rfl) (h.ev rfl) (hslr _))) (by kernel_rfl) (fun _ _ _ _ _ h => h) ?_
    refine fw_o1 20 (by kernel_rfl) ?_
    refine fw_oc rfl Try.func71 rfl rfl rfl ((send_any (sq := c.una) (fl := 24) (Mch.mk (rf := false) (c := ({ c with tm := (backv c.tm) } : EC)) (T := T) r92 hps hsl f94) hvs (by simp only [List.length_take]; omega) (by omega))) ?_
    rintro _ V132 ⟨rfl, hMz133, hKz133, hBz133⟩
    refine ⟨_, rfl, ?_⟩
    obtain ⟨l134, hl134⟩ : ∃ x, x = (l ++ [mkS ({ c with tm := (backv c.tm) } : EC) c.una 24 (c.out.take ((min 536 (min (sentv c) ((c.out.length : Nat) : Int))) : Int).toNat)]) := ⟨_, rfl⟩
    rw [← hl134] at hMz133
    obtain ⟨c135, hc135⟩ : ∃ x, x = ({ c with tm := (backv c.tm) } : EC) := ⟨_, rfl⟩
    rw [← hc135] at hMz133
    obtain ⟨aoz133, coz133, apz133, PLz133, cpz133, alz133, SLz133, clz133, hrz133, hpsz133, hslz133, hmoz133⟩ := Mch.opn hMz133
    have b136 := (b91.trans hBz133)
    have r137 := hrz133
    have r138 := (Kp.row hKz133 (by simp) r93)
    have f139 := hmoz133
    have f140 := (Kp.trans f95 (Kp.sub hKz133 (fun k hk => by simp [hk])))
    refine ⟨⟨b136, r138⟩, ?_⟩
    refine fw_hz (by kernel_rfl) ?_
    refine fw_bn ?_
    refine ⟨fun a h => ?_⟩
    exact bodyPost_end (v := .tuple #[]) (by simp [results, Try.results65]) h.df ⟨rfl, (by have h0 := (Mch.subH (H := H) (Mch.mk (rf := false) (c := c135) (T := T) r137 hpsz133 hslz133 f139) (fun k hk => by simp [hk])); simp only [hc135, hl134] at h0; unfold expireS; rw [if_neg (by have h := hb_1; simpa using h), if_neg (by have h := hb_9; simpa using h), if_neg (by have h := hb_77; simpa using h), if_pos (of_decide_eq_true hb_87), if_pos (by have h := hb_88; rw [decide_eq_true_eq] at h; omega)]; exact h0), f140, b136⟩
   refine fw_ol rfl r92 rfl rfl ?_
   obtain ⟨vsl, hslr, hvs⟩ := slice_toI (Sl.of_own (MO.facts f94).2.2.2.2.2).1 (min 536 (min (sentv c) ((c.out.length : Nat) : Int))) (by omega) (by omega)
   refine fw_tx 19 83 (vsl) rfl rfl rfl rfl (fun a h W hW => by obtain ⟨b91, r93⟩ := hW; exact (run_sliceOp1 (h.ev rfl) (h.ev rfl) (hslr _))) (by kernel_rfl) (fun _ _ _ _ _ h => h) ?_
   refine fw_o1 5 (by kernel_rfl) ?_
   refine fw_ol rfl r92 rfl rfl ?_
   refine fw_o1 20 (by kernel_rfl) ?_
   refine fw_oc rfl Try.func71 rfl rfl rfl ((send_any (sq := c.una) (fl := 24) (Mch.mk (rf := false) (c := ({ c with tm := (backv c.tm) } : EC)) (T := T) r92 hps hsl f94) hvs (by simp only [List.length_take]; omega) (by omega))) ?_
   rintro _ V141 ⟨rfl, hMz142, hKz142, hBz142⟩
   refine ⟨_, rfl, ?_⟩
   obtain ⟨l143, hl143⟩ : ∃ x, x = (l ++ [mkS ({ c with tm := (backv c.tm) } : EC) c.una 24 (c.out.take ((min 536 (min (sentv c) ((c.out.length : Nat) : Int))) : Int).toNat)]) := ⟨_, rfl⟩
   rw [← hl143] at hMz142
   obtain ⟨c144, hc144⟩ : ∃ x, x = ({ c with tm := (backv c.tm) } : EC) := ⟨_, rfl⟩
   rw [← hc144] at hMz142
   obtain ⟨aoz142, coz142, apz142, PLz142, cpz142, alz142, SLz142, clz142, hrz142, hpsz142, hslz142, hmoz142⟩ := Mch.opn hMz142
   have b145 := (b91.trans hBz142)
   have r146 := hrz142
   have r147 := (Kp.row hKz142 (by simp) r93)
   have f148 := hmoz142
   have f149 := (Kp.trans f95 (Kp.sub hKz142 (fun k hk => by simp [hk])))
   refine ⟨⟨b145, r147⟩, ?_⟩
   refine fw_hz (by kernel_rfl) ?_
   refine fw_bn ?_
   refine ⟨fun a h => ?_⟩
   exact bodyPost_end (v := .tuple #[]) (by simp [results, Try.results65]) h.df ⟨rfl, (by have h0 := (Mch.subH (H := H) (Mch.mk (rf := false) (c := c144) (T := T) r146 hpsz142 hslz142 f148) (fun k hk => by simp [hk])); simp only [hc144, hl143] at h0; unfold expireS; rw [if_neg (by have h := hb_1; simpa using h), if_neg (by have h := hb_9; simpa using h), if_neg (by have h := hb_77; simpa using h), if_pos (of_decide_eq_true hb_87), if_pos (by have h := hb_88; rw [decide_eq_true_eq] at h; omega)]; exact h0), f149, b145⟩
  refine fw_cF rfl hb_88 ?_
  refine fw_sq ?_
  refine fw_rg rfl ?_
  iterate 3 refine fw_pu rfl ?_
  refine fw_dt ?_
  refine fw_cT rfl hb_87 ?_
  refine fw_rg rfl ?_
  iterate 5 refine fw_pu rfl ?_
  refine fw_ld r73 rfl rfl ?_
  refine fw_ca Try.func71 rfl rfl rfl ((send_any (sq := c.una) (fl := 17) (D := []) (Mch.mk (rf := false) (c := ({ c with tm := (backv c.tm) } : EC)) (T := T) r73 hps hsl f75) (Sl_nil _) (by decide) (by omega))) ?_
  rintro _ V150 ⟨rfl, hMz151, hKz151, hBz151⟩
  refine ⟨_, rfl, ?_⟩
  obtain ⟨l152, hl152⟩ : ∃ x, x = (l ++ [mkS ({ c with tm := (backv c.tm) } : EC) c.una 17 []]) := ⟨_, rfl⟩
  rw [← hl152] at hMz151
  obtain ⟨c153, hc153⟩ : ∃ x, x = ({ c with tm := (backv c.tm) } : EC) := ⟨_, rfl⟩
  rw [← hc153] at hMz151
  obtain ⟨aoz151, coz151, apz151, PLz151, cpz151, alz151, SLz151, clz151, hrz151, hpsz151, hslz151, hmoz151⟩ := Mch.opn hMz151
  have b154 := (b72.trans hBz151)
  have r155 := hrz151
  have f157 := hmoz151
  have f158 := (Kp.trans f76 (Kp.sub hKz151 (fun k hk => by simp [hk])))
  refine fw_dn ?_
  refine fw_bn ?_
  refine ⟨fun a h => ?_⟩
  exact bodyPost_end (v := .tuple #[]) (by simp [results, Try.results65]) h.df ⟨rfl, (by have h0 := (Mch.subH (H := H) (Mch.mk (rf := false) (c := c153) (T := T) r155 hpsz151 hslz151 f157) (fun k hk => by simp [hk])); simp only [hc153, hl152] at h0; unfold expireS; rw [if_neg (by have h := hb_1; simpa using h), if_neg (by have h := hb_9; simpa using h), if_neg (by have h := hb_77; simpa using h), if_pos (of_decide_eq_true hb_87), if_neg (by have h := hb_88; rw [decide_eq_false_iff_not] at h; omega)]; exact h0), f158, b154⟩
 refine fw_kn 55 rfl hb_87 ?_
 iterate 9 refine fw_pu rfl ?_
 refine fw_dt ?_
 refine fw_cF rfl rfl ?_
 refine fw_sq ?_
 refine fw_rg rfl ?_
 iterate 3 refine fw_pu rfl ?_
 refine fw_dt ?_
 refine fw_cF rfl hb_87 ?_
 refine fw_sq ?_
 refine fw_rg rfl ?_
 iterate 4 refine fw_pu rfl ?_
 refine fw_ld r73 rfl rfl ?_
 iterate 3 refine fw_pu rfl ?_
 refine fw_dt ?_
 rcases Bool.eq_false_or_eq_true ((decide (0 < ((c.out.length : Nat) : Int)))) with hb_159 | hb_159
 ·skip
  refine fw_cT rfl hb_159 ?_
  refine fw_sq ?_
  have hln0 : (0 : Int) < ((c.out.length : Nat) : Int) := of_decide_eq_true hb_159
  refine fw_hr (fun X => Below B w X ∧ RowAt X q47 [.bool c.tm.on, .int .i64 (backw c.tm.wait), .int .i64 (backw c.tm.wait), .int .i64 (c.tm.tries + 1)]) (by kernel_rfl) 13 rfl ?_
  intro W160 s161
  have b162 := b72.trans (s161.mono (Nat.le_trans hBw b72.size))
  have r163 := r73.below s161
  have r164 := r74.below s161
  have f165 := (MO.below f75 s161)
  have f166 := (Kp.trans f76 (Kp.of_below s161))
  refine ⟨⟨b162, r164⟩, ?_⟩
  refine fw_tq 0 rfl rfl ?_
  refine fw_tq 1 rfl rfl ?_
  refine fw_tq 2 rfl rfl ?_
  refine fw_tq 3 rfl rfl ?_
  refine fw_tq 4 rfl rfl ?_
  refine fw_tq 6 rfl rfl ?_
  refine fw_tq 7 rfl rfl ?_
  refine fw_tq 8 rfl rfl ?_
  refine fw_tq 9 rfl rfl ?_
  refine fw_o2 5 10 (by kernel_rfl) ?_ ?_
  ·skip
   refine fw_ol rfl r163 rfl rfl ?_
   refine fw_o1 10 (by kernel_rfl) ?_
   refine fw_ol rfl r163 rfl rfl ?_
   obtain ⟨vsl, hslr, hvs⟩ := slice_toI (Sl.of_own (MO.facts f165).2.2.2.2.2).1 1 (by omega) (by omega)
   refine fw_tx 11 114 (vsl) rfl rfl rfl rfl (fun a h W hW => by obtain ⟨b162, r164⟩ := hW; exact (run_sliceOp1 (h.ev rfl) (h.ev rfl) (hslr _))) (by kernel_rfl) (fun _ _ _ _ _ h => h) ?_
   refine fw_o1 12 (by kernel_rfl) ?_
   refine fw_oc rfl Try.func71 rfl rfl rfl ((send_any (sq := c.nxt) (fl := 24) (Mch.mk (rf := false) (c := ({ c with tm := (backv c.tm) } : EC)) (T := T) r163 hps hsl f165) hvs (by simp only [List.length_take]; omega) (by omega))) ?_
   rintro _ V167 ⟨rfl, hMz168, hKz168, hBz168⟩
   refine ⟨_, rfl, ?_⟩
   obtain ⟨l169, hl169⟩ : ∃ x, x = (l ++ [mkS ({ c with tm := (backv c.tm) } : EC) c.nxt 24 (c.out.take (1 : Int).toNat)]) := ⟨_, rfl⟩
   rw [← hl169] at hMz168
   obtain ⟨c170, hc170⟩ : ∃ x, x = ({ c with tm := (backv c.tm) } : EC) := ⟨_, rfl⟩
   rw [← hc170] at hMz168
   obtain ⟨aoz168, coz168, apz168, PLz168, cpz168, alz168, SLz168, clz168, hrz168, hpsz168, hslz168, hmoz168⟩ := Mch.opn hMz168
   have b171 := (b162.trans hBz168)
   have r172 := hrz168
   have r173 := (Kp.row hKz168 (by simp) r164)
   have f174 := hmoz168
   have f175 := (Kp.trans f166 (Kp.sub hKz168 (fun k hk => by simp [hk])))
   refine ⟨⟨b171, r173⟩, ?_⟩
   refine fw_ht (by kernel_rfl) ?_
   refine fw_fg [(0, _)] ⟨rfl, trivial⟩ ?_
   refine fw_rg rfl ?_
   iterate 5 refine fw_pu rfl ?_
   refine fw_ld r172 rfl rfl ?_
   refine fw_cv (fun v X => v = (.int .i64 (addv c170.nxt 1)) ∧ V167 = X) Try.func54 rfl rfl rfl (((spanAdd_any c170.nxt 1 V167)).mono fun e X h => ⟨_, h.1, rfl, h.2⟩) ?_
   rintro _ _ ⟨rfl, rfl⟩
   iterate 3 refine fw_pu rfl ?_
   refine fw_st r172 rfl rfl ?_
   intro W176 s177 r178
   have b179 := below_chg b171 s177 (by omega) (Nat.le_trans hBw b171.size)
   have f181 := (MO.chg f174 s177 (.inl rfl))
   have f182 := (Kp.chg f175 s177 hqH)
   refine fw_dn ?_
   refine fw_bn ?_
   refine ⟨fun a h => ?_⟩
   exact bodyPost_end (v := .tuple #[]) (by simp [results, Try.results65]) h.df ⟨rfl, (by have h0 := (Mch.subH (H := H) (Mch.mk (rf := false) (c := ({ c170 with nxt := (addv c170.nxt 1) } : EC)) (T := T) r178 hpsz168 hslz168 f181) (fun k hk => by simp [hk])); simp only [hc170, hl169] at h0; unfold expireS; rw [if_neg (by have h := hb_1; simpa using h), if_neg (by have h := hb_9; simpa using h), if_neg (by have h := hb_77; simpa using h), if_neg (of_decide_eq_false hb_87), if_pos (by have h := hb_159; rw [decide_eq_true_eq] at h; omega)]; exact h0), f182, b179⟩
  refine fw_ol rfl r163 rfl rfl ?_
  obtain ⟨vsl, hslr, hvs⟩ := slice_toI (Sl.of_own (MO.facts f165).2.2.2.2.2).1 1 (by omega) (by omega)
  refine fw_tx 11 114 (vsl) rfl rfl rfl rfl (fun a h W hW => by obtain ⟨b162, r164⟩ := hW; exact (run_sliceOp1 (h.ev rfl) (h.ev rfl) (hslr _))) (by kernel_rfl) (fun _ _ _ _ _ h => h) ?_
  refine fw_o1 5 (by kernel_rfl) ?_
  refine fw_ol rfl r163 rfl rfl ?_
  refine fw_o1 12 (by kernel_rfl) ?_
  refine fw_oc rfl Try.func71 rfl rfl rfl ((send_any (sq := c.nxt) (fl := 24) (Mch.mk (rf := false) (c := ({ c with tm := (backv c.tm) } : EC)) (T := T) r163 hps hsl f165) hvs (by simp only [List.length_take]; omega) (by omega))) ?_
  rintro _ V183 ⟨rfl, hMz184, hKz184, hBz184⟩
  refine ⟨_, rfl, ?_⟩
  obtain ⟨l185, hl185⟩ : ∃ x, x = (l ++ [mkS ({ c with tm := (backv c.tm) } : EC) c.nxt 24 (c.out.take (1 : Int).toNat)]) := ⟨_, rfl⟩
  rw [← hl185] at hMz184
  obtain ⟨c186, hc186⟩ : ∃ x, x = ({ c with tm := (backv c.tm) } : EC) := ⟨_, rfl⟩
  rw [← hc186] at hMz184
  obtain ⟨aoz184, coz184, apz184, PLz184, cpz184, alz184, SLz184, clz184, hrz184, hpsz184, hslz184, hmoz184⟩ := Mch.opn hMz184
  have b187 := (b162.trans hBz184)
  have r188 := hrz184
  have r189 := (Kp.row hKz184 (by simp) r164)
  have f190 := hmoz184
  have f191 := (Kp.trans f166 (Kp.sub hKz184 (fun k hk => by simp [hk])))
  refine ⟨⟨b187, r189⟩, ?_⟩
  refine fw_ht (by kernel_rfl) ?_
  refine fw_fg [(0, _)] ⟨rfl, trivial⟩ ?_
  refine fw_rg rfl ?_
  iterate 5 refine fw_pu rfl ?_
  refine fw_ld r188 rfl rfl ?_
  refine fw_cv (fun v X => v = (.int .i64 (addv c186.nxt 1)) ∧ V183 = X) Try.func54 rfl rfl rfl (((spanAdd_any c186.nxt 1 V183)).mono fun e X h => ⟨_, h.1, rfl, h.2⟩) ?_
  rintro _ _ ⟨rfl, rfl⟩
  iterate 3 refine fw_pu rfl ?_
  refine fw_st r188 rfl rfl ?_
  intro W192 s193 r194
  have b195 := below_chg b187 s193 (by omega) (Nat.le_trans hBw b187.size)
  have f197 := (MO.chg f190 s193 (.inl rfl))
  have f198 := (Kp.chg f191 s193 hqH)
  refine fw_dn ?_
  refine fw_bn ?_
  refine ⟨fun a h => ?_⟩
  exact bodyPost_end (v := .tuple #[]) (by simp [results, Try.results65]) h.df ⟨rfl, (by have h0 := (Mch.subH (H := H) (Mch.mk (rf := false) (c := ({ c186 with nxt := (addv c186.nxt 1) } : EC)) (T := T) r194 hpsz184 hslz184 f197) (fun k hk => by simp [hk])); simp only [hc186, hl185] at h0; unfold expireS; rw [if_neg (by have h := hb_1; simpa using h), if_neg (by have h := hb_9; simpa using h), if_neg (by have h := hb_77; simpa using h), if_neg (of_decide_eq_false hb_87), if_pos (by have h := hb_159; rw [decide_eq_true_eq] at h; omega)]; exact h0), f198, b195⟩
 refine fw_cF rfl hb_159 ?_
 refine fw_rg rfl ?_
 refine fw_pu rfl ?_
 refine fw_ex 34 (.agg #[.bool false, .int .i64 0, .int .i64 0, .int .i64 0]) rfl rfl rfl (fun a h => (run_buildOp (vs := #[]) (by simp) (by kernel_rfl))) ?_
 iterate 3 refine fw_pu rfl ?_
 refine fw_st r73 rfl rfl ?_
 intro W199 s200 r201
 have b202 := below_chg b72 s200 (by omega) (Nat.le_trans hBw b72.size)
 have f204 := (MO.chg f75 s200 (.inl rfl))
 have f205 := (Kp.chg f76 s200 hqH)
 refine fw_dn ?_
 refine fw_bn ?_
 refine ⟨fun a h => ?_⟩
 exact bodyPost_end (v := .tuple #[]) (by simp [results, Try.results65]) h.df ⟨rfl, (by have h0 := (Mch.subH (H := H) (Mch.mk (rf := false) (c := ({ c with tm := tm0 } : EC)) (T := T) r201 hps hsl f204) (fun k hk => by simp [hk])); unfold expireS; rw [if_neg (by have h := hb_1; simpa using h), if_neg (by have h := hb_9; simpa using h), if_neg (by have h := hb_77; simpa using h), if_neg (of_decide_eq_false hb_87), if_neg (by have h := hb_159; rw [decide_eq_false_iff_not] at h; omega)]; exact h0), f205, b202⟩

theorem okS_parts {s : ES} (h : okS s = true) : (0 ≤ s.sp ∧ s.sp < 65536) ∧ (0 ≤ s.sq ∧ s.sq < 4294967296) ∧ (0 ≤ s.fl ∧ s.fl ≤ 63) ∧ (0 ≤ s.wn ∧ s.wn < 65536) ∧ s.d.length ≤ 1460 := by
  unfold okS at h
  rw [decide_eq_true_eq] at h
  omega
theorem segLen_bd {s : ES} (h : s.d.length ≤ 1460) : 0 ≤ segLen s ∧ segLen s ≤ 1000000 := by
  unfold segLen
  split <;> split <;> omega
theorem shr1 (x : Int) (w : World) : (binOp .shr 3 (.int .i64 x) (.int .u64 1)).run Try.prog w = .ok (.int .i64 (x / 2)) w := by
  simp [go_sem]
theorem fb_all : ∀ n : Fin 64, bits .and .i64 (((n.val : Nat) : Int) / 2) 1 = (if fb ((n.val : Nat) : Int) 2 = true then (1 : Int) else 0) ∧ bits .and .i64 ((n.val : Nat) : Int) 1 = (if fb ((n.val : Nat) : Int) 1 = true then (1 : Int) else 0) := by decide +kernel
theorem fb_one {x : Int} (h : 0 ≤ x ∧ x ≤ 63) : bits .and .i64 (x / 2) 1 = (if fb x 2 = true then (1 : Int) else 0) ∧ bits .and .i64 x 1 = (if fb x 1 = true then (1 : Int) else 0) := by
  have := fb_all ⟨x.toNat, by omega⟩
  rwa [show ((x.toNat : Nat) : Int) = x by omega] at this
theorem and21 (x : Int) (h : 0 ≤ x ∧ x ≤ 63) (w : World) : (binOp .and 3 (.int .i64 (x / 2)) (.int .i64 1)).run Try.prog w = .ok (.int .i64 (if fb x 2 = true then (1 : Int) else 0)) w := by
  rw [andIw, (fb_one h).1]
theorem and11 (x : Int) (h : 0 ≤ x ∧ x ≤ 63) (w : World) : (binOp .and 3 (.int .i64 x) (.int .i64 1)).run Try.prog w = .ok (.int .i64 (if fb x 1 = true then (1 : Int) else 0)) w := by
  rw [andIw, (fb_one h).2]
theorem ackL_len (c : EC) (s : ES) : (ackL c [] s).length ≤ 1 := by
  unfold ackL ackN
  split
  · split <;> simp
  · split <;> simp
theorem add_fits {n sq : Int} {L : List EP} {D : List UInt8} (hb : bufB n L = true) (hs : 0 ≤ sq ∧ sq < 4294967296) (hd : D.length ≤ 1460) : addOk n L sq D = true := by
  unfold addOk
  rw [hb, decide_eq_true hs.1, decide_eq_true hs.2, decide_eq_true (by omega)]; rfl
theorem mayP_st {c : EC} (h : mayP c = true) : c.st = 2 ∨ c.st = 5 := by
  unfold mayP at h
  simpa using h
section
variable {c : EC} {s : ES} (n0 : ¬ c.st = 0)
theorem takeS_0 (h : c.st = 0) : takeS c s = (c, [], []) := by unfold takeS; rw [if_pos h]
include n0
theorem takeS_out (h : accS c s = false) : takeS c s = ((outS c [] s).1, (outS c [] s).2, []) := by unfold takeS; rw [if_neg n0, h, if_neg Bool.false_ne_true]
theorem takeS_rst (h : accS c s = true) (h4 : fb s.fl 4 = true) : takeS c s = (shutC c, [], []) := by unfold takeS; rw [if_neg n0, h, if_pos rfl, h4, if_pos rfl]
theorem takeS_syn (h : accS c s = true) (h4 : fb s.fl 4 = false) (h2 : fb s.fl 2 = true) : takeS c s = (c, ackN c [], []) := by unfold takeS; rw [if_neg n0, h, if_pos rfl, h4, if_neg Bool.false_ne_true, h2, if_pos rfl]
theorem takeS_no (h : accS c s = true) (h4 : fb s.fl 4 = false) (h2 : fb s.fl 2 = false) (h16 : fb s.fl 16 = false) : takeS c s = (c, [], []) := by unfold takeS; rw [if_neg n0, h, if_pos rfl, h4, if_neg Bool.false_ne_true, h2, if_neg Bool.false_ne_true, h16, if_neg Bool.false_ne_true]
theorem takeS_nak (h : accS c s = true) (h4 : fb s.fl 4 = false) (h2 : fb s.fl 2 = false) (h16 : fb s.fl 16 = true) (hb : ackB c s = false) : takeS c s = (ackC c s, ackL c [] s, []) := by unfold takeS; rw [if_neg n0, h, if_pos rfl, h4, if_neg Bool.false_ne_true, h2, if_neg Bool.false_ne_true, h16, if_pos rfl, hb, if_neg Bool.false_ne_true]
theorem takeS_go (h : accS c s = true) (h4 : fb s.fl 4 = false) (h2 : fb s.fl 2 = false) (h16 : fb s.fl 16 = true) (hb : ackB c s = true) : takeS c s = (lastT (pumpS (hearC { ackC c s with win := s.wn } s) (lenL (hearC { ackC c s with win := s.wn } s) (ackL c [] s) s)).1, (pumpS (hearC { ackC c s with win := s.wn } s) (lenL (hearC { ackC c s with win := s.wn } s) (ackL c [] s) s)).2, hearT { ackC c s with win := s.wn } s) := by
  unfold takeS; rw [if_neg n0, h, if_pos rfl, h4, if_neg Bool.false_ne_true, h2, if_neg Bool.false_ne_true, h16, if_pos rfl, hb, if_pos rfl]
end
theorem lastT_1 {c : EC} (h : c.tm.on = true) : lastT c = c := by unfold lastT; rw [h]; rfl
theorem lastT_2 {c : EC} (h : decide (0 < sentv c) = false) : lastT c = c := by unfold lastT; rw [h, Bool.false_and, Bool.and_false, if_neg Bool.false_ne_true]
theorem lastT_3 {c : EC} (h : (c.st == 0) = true) : lastT c = c := by unfold lastT; rw [h, Bool.not_true, Bool.false_and, Bool.and_false, Bool.and_false, if_neg Bool.false_ne_true]
theorem lastT_4 {c : EC} (h : (c.st == 8) = true) : lastT c = c := by unfold lastT; rw [h, Bool.not_true, Bool.and_false, Bool.and_false, Bool.and_false, if_neg Bool.false_ne_true]
theorem lastT_5 {c : EC} (h : c.tm.on = false) (h2 : decide (0 < sentv c) = true) (h3 : (c.st == 0) = false) (h4 : (c.st == 8) = false) : lastT c = { c with tm := tmS 3 } := by unfold lastT; rw [h, h2, h3, h4]; rfl
set_option maxRecDepth 100000 in
set_option maxHeartbeats 4000000 in
theorem take_any {B q : Nat} {H : List Nat} {c : EC} {w : World} {s : ES} {ad : Option Addr} {cd : Nat} (hM : Mch B H q false c ([] : List ES) (⟨[], .slice none 0 0⟩ : Td) w) (hok : okC c = true) (hsk : okS s = true) (hD : ∀ W, Below B w W → Sl W (.slice ad s.d.length cd) s.d) :
    Calls Try.prog 67 #[.pointer (some ⟨q, 0, none⟩), .agg #[.int .i64 s.sp, .int .i64 s.dp, .int .i64 s.sq, .int .i64 s.ak, .int .i64 s.fl, .int .i64 s.wn, .slice ad s.d.length cd]] w fun e W' => ∃ vt, e = .returned vt ∧ Mch B H q false (takeS c s).1 (takeS c s).2.1 ⟨(takeS c s).2.2, vt⟩ W' ∧ Kp H w W' ∧ Below B w W' := by
 obtain ⟨ao, co, ap, PL, cp, al, SL, cl, hr, hps, hsl, hmo⟩ := hM.opn
 have hBw : B ≤ w.heap.size := hmo.facts.2.1
 have hBq : B ≤ q := hmo.facts.1
 have hqw : q < w.heap.size := hmo.facts.2.2.1
 have hqH : q ∉ H := hmo.facts.2.2.2.1
 have HHlt := Lib.hid hmo.facts.2.2.2.2.1
 have hkp := Kp.refl H w
 have hb0 := Below.refl B w
 replace hr : RowAt w q [.int .i64 c.link, .int .i64 c.ip, .int .i64 c.pp, .int .i64 c.po, .int .i64 c.st, .int .i64 c.una, .int .i64 c.nxt, .int .i64 c.win, .slice ao c.out.length co, .int .i64 c.rn, .slice ap PL.length cp, .bool c.cl, .bool c.tm.on, .int .i64 c.tm.left, .int .i64 c.tm.wait, .int .i64 c.tm.tries, .slice al SL.length cl] := hr
 obtain ⟨hsp1, hsq, hfl, hswn, hsd⟩ := okS_parts hsk
 obtain ⟨-, -, -, -, hol, hbuf, -, -⟩ := okC_parts hok
 have hrn := (bufB_parts hbuf).1
 have hsg := segLen_bd hsd
 refine fw_en 121 [(0, .pointer (some ⟨q, 0, none⟩)), (1, .agg #[.int .i64 s.sp, .int .i64 s.dp, .int .i64 s.sq, .int .i64 s.ak, .int .i64 s.fl, .int .i64 s.wn, .slice ad s.d.length cd])] Try.func67 rfl Try.ntmps67 rfl ⟨rfl, rfl, trivial⟩ ?_
 refine fw_sq ?_
 refine fw_rg rfl ?_
 refine fw_bx rfl (cs := [.int .i64 s.sp, .int .i64 s.dp, .int .i64 s.sq, .int .i64 s.ak, .int .i64 s.fl, .int .i64 s.wn, .slice ad s.d.length cd]) rfl ?_
 intro q1 W2 g5 s3 r4
 have := Nat.le_trans (Nat.le_trans hBw hb0.size) g5
 have := hr.lt g5
 have hnH_q1 : q1 ∉ H := fun hk => by have h0 := HHlt.out q1 hk; have h1 := hkp.size; omega
 have b6 := hb0.trans (s3.mono (Nat.le_trans hBw hb0.size))
 have r7 := hr.below s3
 have f8 := (MO.hold hmo s3 g5 r4.2.2)
 have f9 := (Kp.trans hkp (Kp.of_below s3))
 refine fw_pu rfl ?_
 refine fw_dt ?_
 refine ⟨fun a h => ?_⟩
 refine wp_scope_end rfl rfl fun J' HJ => ?_
 refine wpSpine_seq rfl fun K hK10 => ?_
 refine fw_in h ?_
 refine fw_rg rfl ?_
 refine fw_pu rfl ?_
 refine fw_ld r4 rfl rfl ?_
 iterate 2 refine fw_pu rfl ?_
 refine fw_ld r4 rfl rfl ?_
 refine fw_ex 11 (.int .i64 (s.fl / 2)) rfl rfl rfl (fun a h => (run_binOp (h.ev rfl) (h.ev rfl) (by simp [go_sem]) (shr1 _ _))) ?_
 refine fw_ex 12 (.int .i64 (if fb s.fl 2 = true then (1 : Int) else 0)) rfl rfl rfl (fun a h => (run_binOp (h.ev rfl) (h.ev rfl) (by simp [go_sem]) (and21 _ hfl _))) ?_
 refine fw_ex 13 (.int .i64 (((s.d.length : Nat) : Int) + (if fb s.fl 2 = true then (1 : Int) else 0))) rfl rfl rfl (fun a h => (run_binOp (h.ev rfl) (h.ev rfl) (by simp [go_sem]) (addIw _ _ _ _ (by (first | rfl | omega | (split <;> omega) | (split <;> split <;> omega))) (by (first | rfl | omega | (split <;> omega) | (split <;> split <;> omega))) (by (first | rfl | omega | (split <;> omega) | (split <;> split <;> omega)))))) ?_
 refine fw_pu rfl ?_
 refine fw_ld r4 rfl rfl ?_
 refine fw_ex 16 (.int .i64 (if fb s.fl 1 = true then (1 : Int) else 0)) rfl rfl rfl (fun a h => (run_binOp (h.ev rfl) (h.ev rfl) (by simp [go_sem]) (and11 _ hfl _))) ?_
 refine fw_ex 17 (.int .i64 (segLen s)) rfl rfl rfl (fun a h => (run_binOp (h.ev rfl) (h.ev rfl) (by simp [go_sem]) (addIw _ _ _ _ (by (first | rfl | omega | (split <;> omega) | (split <;> split <;> omega))) (by (first | rfl | omega | (split <;> omega) | (split <;> split <;> omega))) (by (first | rfl | omega | (split <;> omega) | (split <;> split <;> omega)))))) ?_
 refine fw_pu rfl ?_
 refine fw_dn ?_
 refine ⟨fun a h => ?_⟩
 refine ow_then (hK10 _ _ ?_)
 refine wpSpine_seq rfl fun K hK11 => ?_
 refine fw_in h ?_
 refine fw_sq ?_
 refine fw_rg rfl ?_
 iterate 4 refine fw_pu rfl ?_
 refine fw_ld r7 rfl rfl ?_
 refine fw_pu rfl ?_
 refine fw_dt ?_
 rcases Bool.eq_false_or_eq_true ((c.st == 0)) with hb_12 | hb_12
 ·skip
  refine fw_cT rfl hb_12 ?_
  refine fw_go ?_
  refine ⟨fun a h => ?_⟩
  refine ow_then_goto (ow_jump (HJ _ _ ?_))
  refine fw_in h ?_
  refine fw_sq ?_
  refine fw_rg rfl ?_
  iterate 2 refine fw_pu rfl ?_
  refine fw_dt ?_
  refine fw_rt ?_
  refine ⟨fun a h => ?_⟩
  refine ow_nogoto_ret ?_
  exact ow_ret1 rfl h.df (h.g 4 rfl) ⟨_, rfl, (by have h0 := (Mch.subH (H := H) (Mch.mk (rf := false) (c := c) (T := (⟨[], .slice none 0 0⟩ : Td)) r7 hps hsl f8) (fun k hk => by simp [hk])); rw [takeS_0 (by have h := hb_12; simpa using h)]; exact h0), f9, b6⟩
 refine fw_cF rfl hb_12 ?_
 refine fw_sk ?_
 refine ⟨fun a h => ?_⟩
 refine ow_then (hK11 _ _ ?_)
 refine wpSpine_seq rfl fun K hK13 => ?_
 refine fw_in h ?_
 refine fw_sq ?_
 refine fw_rg rfl ?_
 iterate 2 refine fw_pu rfl ?_
 refine fw_ld r4 rfl rfl ?_
 refine fw_pu rfl ?_
 refine fw_ca Try.func88 rfl rfl rfl (acc_any q c _ _ _ s.sq (segLen s) W2 r7 hrn hsq hsg) ?_
 rintro _ V15 ⟨rfl, hb14⟩
 refine ⟨(.bool (accS c s)), rfl, ?_⟩
 have b16 := b6.trans (hb14.mono (Nat.le_trans hBw b6.size))
 have r17 := r7.below hb14
 have r18 := r4.below hb14
 have f19 := (MO.below f8 hb14)
 have f20 := (Kp.trans f9 (Kp.of_below hb14))
 refine fw_pu rfl ?_
 refine fw_dt ?_
 rcases Bool.eq_false_or_eq_true ((accS c s)) with hb_21 | hb_21
 ·skip
  refine fw_cF rfl (not_of hb_21) ?_
  refine fw_sk ?_
  refine ⟨fun a h => ?_⟩
  refine ow_then (hK13 _ _ ?_)
  refine wpSpine_seq rfl fun K hK22 => ?_
  refine fw_in h ?_
  refine fw_sq ?_
  refine fw_rg rfl ?_
  refine fw_pu rfl ?_
  refine fw_ld r18 rfl rfl ?_
  refine fw_ex 35 (.int .i64 (bits .and .i64 s.fl 4)) rfl rfl rfl (fun a h => (run_binOp (h.ev rfl) (h.ev rfl) (by simp [go_sem]) (andIw _ _ _))) ?_
  refine fw_pu rfl ?_
  refine fw_dt ?_
  refine fw_fg [(0, _), (3, _), (4, _), (5, _), (36, _)] ⟨rfl, rfl, rfl, rfl, rfl, trivial⟩ ?_
  rcases Bool.eq_false_or_eq_true ((fb s.fl 4)) with hb_23 | hb_23
  ·skip
   refine fw_cT rfl hb_23 ?_
   refine fw_sq ?_
   refine fw_rg rfl ?_
   refine fw_pu rfl ?_
   refine fw_ca Try.func84 rfl rfl rfl ((shut_any (Mch.mk (rf := false) (c := c) (T := (⟨[], .slice none 0 0⟩ : Td)) r17 hps hsl f19))) ?_
   rintro _ V24 ⟨rfl, hMz25, hKz25, hBz25⟩
   refine ⟨_, rfl, ?_⟩
   obtain ⟨T26, hT26⟩ : ∃ x, x = (⟨[], .slice none 0 0⟩ : Td) := ⟨_, rfl⟩
   rw [← hT26] at hMz25
   obtain ⟨l27, hl27⟩ : ∃ x, x = ([] : List ES) := ⟨_, rfl⟩
   rw [← hl27] at hMz25
   obtain ⟨c28, hc28⟩ : ∃ x, x = (shutC c) := ⟨_, rfl⟩
   rw [← hc28] at hMz25
   obtain ⟨aoz25, coz25, apz25, PLz25, cpz25, alz25, SLz25, clz25, hrz25, hpsz25, hslz25, hmoz25⟩ := Mch.opn hMz25
   have b29 := (b16.trans hBz25)
   have r30 := hrz25
   have f32 := hmoz25
   have f33 := (Kp.trans f20 (Kp.sub hKz25 (fun k hk => by simp [hk])))
   refine fw_dt ?_
   refine fw_go ?_
   refine ⟨fun a h => ?_⟩
   refine ow_then_goto (ow_jump (HJ _ _ ?_))
   refine fw_in h ?_
   refine fw_sq ?_
   refine fw_rg rfl ?_
   iterate 2 refine fw_pu rfl ?_
   refine fw_dt ?_
   refine fw_rt ?_
   refine ⟨fun a h => ?_⟩
   refine ow_nogoto_ret ?_
   exact ow_ret1 rfl h.df (h.g 4 rfl) ⟨_, rfl, (by have h0 := (Mch.subH (H := H) (Mch.mk (rf := false) (c := c28) (T := T26) r30 hpsz25 hslz25 f32) (fun k hk => by simp [hk])); simp only [hc28, hl27, hT26] at h0; rw [takeS_rst (by have h := hb_12; simpa using h) hb_21 hb_23]; exact h0), f33, b29⟩
  refine fw_cF rfl hb_23 ?_
  refine fw_sk ?_
  refine ⟨fun a h => ?_⟩
  refine ow_then (hK22 _ _ ?_)
  refine wpSpine_seq rfl fun K hK34 => ?_
  refine fw_in h ?_
  refine fw_sq ?_
  refine fw_rg rfl ?_
  refine fw_pu rfl ?_
  refine fw_ld r18 rfl rfl ?_
  refine fw_ex 41 (.int .i64 (bits .and .i64 s.fl 2)) rfl rfl rfl (fun a h => (run_binOp (h.ev rfl) (h.ev rfl) (by simp [go_sem]) (andIw _ _ _))) ?_
  refine fw_pu rfl ?_
  refine fw_dt ?_
  rcases Bool.eq_false_or_eq_true ((fb s.fl 2)) with hb_35 | hb_35
  ·skip
   refine fw_cT rfl hb_35 ?_
   refine fw_sq ?_
   refine fw_rg rfl ?_
   refine fw_pu rfl ?_
   refine fw_ca Try.func90 rfl rfl rfl ((cack_any (Mch.mk (rf := false) (c := c) (T := (⟨[], .slice none 0 0⟩ : Td)) r17 hps hsl f19) (by simp))) ?_
   rintro _ V36 ⟨rfl, hMz37, hKz37, hBz37⟩
   refine ⟨_, rfl, ?_⟩
   obtain ⟨T38, hT38⟩ : ∃ x, x = (⟨[], .slice none 0 0⟩ : Td) := ⟨_, rfl⟩
   rw [← hT38] at hMz37
   obtain ⟨l39, hl39⟩ : ∃ x, x = (ackN c ([] : List ES)) := ⟨_, rfl⟩
   rw [← hl39] at hMz37
   obtain ⟨aoz37, coz37, apz37, PLz37, cpz37, alz37, SLz37, clz37, hrz37, hpsz37, hslz37, hmoz37⟩ := Mch.opn hMz37
   have b40 := (b16.trans hBz37)
   have r41 := hrz37
   have f43 := hmoz37
   have f44 := (Kp.trans f20 (Kp.sub hKz37 (fun k hk => by simp [hk])))
   refine fw_dt ?_
   refine fw_go ?_
   refine ⟨fun a h => ?_⟩
   refine ow_then_goto (ow_jump (HJ _ _ ?_))
   refine fw_in h ?_
   refine fw_sq ?_
   refine fw_rg rfl ?_
   iterate 2 refine fw_pu rfl ?_
   refine fw_dt ?_
   refine fw_rt ?_
   refine ⟨fun a h => ?_⟩
   refine ow_nogoto_ret ?_
   exact ow_ret1 rfl h.df (h.g 4 rfl) ⟨_, rfl, (by have h0 := (Mch.subH (H := H) (Mch.mk (rf := false) (c := c) (T := T38) r41 hpsz37 hslz37 f43) (fun k hk => by simp [hk])); simp only [hl39, hT38] at h0; rw [takeS_syn (by have h := hb_12; simpa using h) hb_21 hb_23 hb_35]; exact h0), f44, b40⟩
  refine fw_cF rfl hb_35 ?_
  refine fw_sk ?_
  refine ⟨fun a h => ?_⟩
  refine ow_then (hK34 _ _ ?_)
  refine wpSpine_seq rfl fun K hK45 => ?_
  refine fw_in h ?_
  refine fw_sq ?_
  refine fw_rg rfl ?_
  refine fw_pu rfl ?_
  refine fw_ld r18 rfl rfl ?_
  refine fw_ex 47 (.int .i64 (bits .and .i64 s.fl 16)) rfl rfl rfl (fun a h => (run_binOp (h.ev rfl) (h.ev rfl) (by simp [go_sem]) (andIw _ _ _))) ?_
  refine fw_ex 48 (.bool (!(fb s.fl 16))) rfl rfl rfl (fun a h => (run_binOp (h.ev rfl) (h.ev rfl) (eqIntI _ _ _ _ _ _ _) (eqlIb _ _ _ _ (by simp [fb])))) ?_
  refine fw_pu rfl ?_
  rcases Bool.eq_false_or_eq_true ((fb s.fl 16)) with hb_46 | hb_46
  ·skip
   refine fw_kn 49 rfl (not_of hb_46) ?_
   refine fw_pu rfl ?_
   refine fw_ld r18 rfl rfl ?_
   refine fw_ca Try.func91 rfl rfl rfl ((ackd_any (s := s) (Mch.mk (rf := false) (c := c) (T := (⟨[], .slice none 0 0⟩ : Td)) r17 hps hsl f19) (by simp) (by omega))) ?_
   rintro _ V47 ⟨rfl, hMz48, hKz48, hBz48⟩
   refine ⟨(.bool (ackB c s)), rfl, ?_⟩
   obtain ⟨T49, hT49⟩ : ∃ x, x = (⟨[], .slice none 0 0⟩ : Td) := ⟨_, rfl⟩
   rw [← hT49] at hMz48
   obtain ⟨l50, hl50⟩ : ∃ x, x = (ackL c [] s) := ⟨_, rfl⟩
   rw [← hl50] at hMz48
   obtain ⟨c51, hc51⟩ : ∃ x, x = (ackC c s) := ⟨_, rfl⟩
   rw [← hc51] at hMz48
   obtain ⟨aoz48, coz48, apz48, PLz48, cpz48, alz48, SLz48, clz48, hrz48, hpsz48, hslz48, hmoz48⟩ := Mch.opn hMz48
   have b52 := (b16.trans hBz48)
   have r53 := hrz48
   have r54 := (Kp.row hKz48 (by simp) r18)
   have f55 := hmoz48
   have f56 := (Kp.trans f20 (Kp.sub hKz48 (fun k hk => by simp [hk])))
   iterate 2 refine fw_pu rfl ?_
   refine fw_dt ?_
   rcases Bool.eq_false_or_eq_true ((ackB c s)) with hb_57 | hb_57
   ·skip
    refine fw_cF rfl (not_of hb_57) ?_
    refine fw_sk ?_
    refine ⟨fun a h => ?_⟩
    refine ow_then (hK45 _ _ ?_)
    refine wpSpine_seq rfl fun K hK58 => ?_
    refine fw_in h ?_
    obtain ⟨fo, fw, fbf, fsn⟩ := ackC_fits hok hb_57
    have hal := ackL_len c s
    refine fw_rg rfl ?_
    iterate 2 refine fw_pu rfl ?_
    refine fw_ld r54 rfl rfl ?_
    iterate 3 refine fw_pu rfl ?_
    refine fw_st r53 rfl rfl ?_
    intro W59 s60 r61
    have b62 := below_chg b52 s60 (by omega) (Nat.le_trans hBw b52.size)
    have r63 := r54.chg s60 (by omega)
    have f64 := (MO.chg f55 s60 (.inl rfl))
    have f65 := (Kp.chg f56 s60 hqH)
    refine fw_dn ?_
    refine ⟨fun a h => ?_⟩
    refine ow_then (hK58 _ _ ?_)
    refine wpSpine_seq rfl fun K hK66 => ?_
    refine fw_in h ?_
    refine fw_sq ?_
    refine fw_rg rfl ?_
    refine fw_pu rfl ?_
    refine fw_ca Try.func92 rfl rfl rfl (hears_any q ({ c51 with win := s.wn } : EC) _ _ _ W59 r61) ?_
    rintro _ V68 ⟨rfl, hb67⟩
    refine ⟨(.bool (hearsC ({ c51 with win := s.wn } : EC))), rfl, ?_⟩
    have b69 := b62.trans (hb67.mono (Nat.le_trans hBw b62.size))
    have r70 := r61.below hb67
    have r71 := r63.below hb67
    have f72 := (MO.below f64 hb67)
    have f73 := (Kp.trans f65 (Kp.of_below hb67))
    refine fw_dt ?_
    rcases Bool.eq_false_or_eq_true ((hearsC ({ c51 with win := s.wn } : EC))) with hb_74 | hb_74
    ·skip
     refine fw_cT rfl hb_74 ?_
     refine fw_sq ?_
     have hadd : addOk c51.rn c51.ps s.sq s.d = true := by rw [hc51]; exact add_fits fbf hsq hsd
     refine fw_hr (fun X => Below B w X ∧ RowAt X q1 [.int .i64 s.sp, .int .i64 s.dp, .int .i64 s.sq, .int .i64 s.ak, .int .i64 s.fl, .int .i64 s.wn, .slice ad s.d.length cd]) (by kernel_rfl) 20 rfl ?_
     intro W75 s76
     have b77 := b69.trans (s76.mono (Nat.le_trans hBw b69.size))
     have r78 := r70.below s76
     have r79 := r71.below s76
     have f80 := (MO.below f72 s76)
     have f81 := (Kp.trans f73 (Kp.of_below s76))
     refine ⟨⟨b77, r79⟩, ?_⟩
     refine fw_tq 0 rfl rfl ?_
     refine fw_tq 1 rfl rfl ?_
     refine fw_tq 2 rfl rfl ?_
     refine fw_tq 3 rfl rfl ?_
     refine fw_tq 4 rfl rfl ?_
     refine fw_tq 6 rfl rfl ?_
     refine fw_tl 7 (fun _ h => h.2) rfl rfl rfl (by kernel_rfl) (fun _ _ _ _ _ h => h) ?_
     refine fw_tq 8 rfl rfl ?_
     refine fw_tl 9 (fun _ h => h.2) rfl rfl rfl (by kernel_rfl) (fun _ _ _ _ _ h => h) ?_
     refine fw_o1 5 (by kernel_rfl) ?_
     refine fw_ol rfl r78 rfl rfl ?_
     refine fw_o1 10 (by kernel_rfl) ?_
     have hmoW := f80
     have hWB : B ≤ W75.heap.size := Nat.le_trans hBw f81.size
     obtain ⟨col, hcol⟩ := id hmoW
     have hvP : KPart.Sl W75 (.slice apz48 PLz48.length cpz48) c51.ps := by have h := hcol.p.of; rwa [hpsz48] at h
     refine fw_ov (fun v X => ∃ a5 c5 a6 c6 PX, v = .tuple #[.agg #[.int .i64 (addNext c51.rn c51.ps s.sq s.d), .slice a5 PX.length c5], .slice a6 (addTold c51.rn c51.ps s.sq s.d).length c6, .int .i64 0] ∧ PX.map Prod.fst = (addParts c51.rn c51.ps s.sq s.d) ∧ Below W75.heap.size W75 X ∧ DOwn KPart 58 X W75.heap.size (.slice a5 PX.length c5) PX ∧ X.ownsRow W75.heap.size 5 1 (.slice a6 (addTold c51.rn c51.ps s.sq s.d).length c6) (addTold c51.rn c51.ps s.sq s.d).length ((addTold c51.rn c51.ps s.sq s.d).map B8) ∧ Apart (.slice a6 (addTold c51.rn c51.ps s.sq s.d).length c6) (.slice a5 PX.length c5) PX) rfl Try.func20 rfl rfl rfl ((radd_good _ _ c51.rn s.sq c51.ps s.d W75 hvP (hD W75 b77) hadd).mono fun e X ⟨v4, vt, PL, he, hP, ho, ht, hap, hb⟩ => by obtain ⟨a5, c5, rfl⟩ := ho.slice; obtain ⟨a6, c6, rfl⟩ := own_slice ht; exact ⟨_, he, a5, c5, a6, c6, PL, rfl, hP, hb, ho, ht, hap⟩) ?_
     rintro _ V83 ⟨a5, c5, a6, c6, PX, rfl, hPX, hb82, hxo, hto, hap⟩
     have hmoC := MO.newIn hmoW hb82 hxo hto hap hWB
     have b84 := b77.trans (hb82.mono (Nat.le_trans hBw b77.size))
     have r85 := r78.below hb82
     have r86 := r79.below hb82
     have f87 := (Kp.trans f81 (Kp.of_below hb82))
     refine ⟨⟨b84, r86⟩, ?_⟩
     refine fw_tq 11 rfl rfl ?_
     refine fw_tq 12 rfl rfl ?_
     refine fw_tq 13 rfl rfl ?_
     refine fw_tq 14 rfl rfl ?_
     refine fw_tq 15 rfl rfl ?_
     refine fw_tq 16 rfl rfl ?_
     refine fw_tq 17 rfl rfl ?_
     refine fw_o1 18 (by kernel_rfl) ?_
     refine fw_os rfl r85 rfl rfl ?_
     intro W88 s89 r90
     have b91 := below_chg b84 s89 (by omega) (Nat.le_trans hBw b84.size)
     have r92 := r86.chg s89 (by omega)
     have f93 := (Kp.chg f87 s89 hqH)
     have f94 := (MO.chg hmoC s89 (.inl rfl))
     refine ⟨⟨b91, r92⟩, ?_⟩
     refine fw_tq 19 rfl rfl ?_
     refine fw_ht (by kernel_rfl) ?_
     refine fw_fg [(0, _), (3, _), (4, _), (5, _)] ⟨rfl, rfl, rfl, rfl, trivial⟩ ?_
     refine fw_rg rfl ?_
     refine fw_pu rfl ?_
     refine fw_ld r92 rfl rfl ?_
     refine fw_ca Try.func93 rfl rfl rfl ((finish_any (s := s) (Mch.mk (rf := false) (c := ({ c51 with win := s.wn, rn := (addNext c51.rn c51.ps s.sq s.d), ps := (addParts c51.rn c51.ps s.sq s.d) } : EC)) (T := (⟨(addTold c51.rn c51.ps s.sq s.d), (.slice a6 (addTold c51.rn c51.ps s.sq s.d).length c6)⟩ : Td)) r90 hPX hslz48 f94))) ?_
     rintro _ V95 ⟨rfl, hMz96, hKz96, hBz96⟩
     refine ⟨_, rfl, ?_⟩
     obtain ⟨T97, hT97⟩ : ∃ x, x = (⟨(addTold c51.rn c51.ps s.sq s.d), (.slice a6 (addTold c51.rn c51.ps s.sq s.d).length c6)⟩ : Td) := ⟨_, rfl⟩
     rw [← hT97] at hMz96
     obtain ⟨c98, hc98⟩ : ∃ x, x = (finS ({ c51 with win := s.wn, rn := (addNext c51.rn c51.ps s.sq s.d), ps := (addParts c51.rn c51.ps s.sq s.d) } : EC) s) := ⟨_, rfl⟩
     rw [← hc98] at hMz96
     obtain ⟨aoz96, coz96, apz96, PLz96, cpz96, alz96, SLz96, clz96, hrz96, hpsz96, hslz96, hmoz96⟩ := Mch.opn hMz96
     have b99 := (b91.trans hBz96)
     have r100 := hrz96
     have f102 := (Kp.trans f93 (Kp.sub hKz96 (fun k hk => by simp [hk])))
     have f103 := hmoz96
     refine fw_dn ?_
     refine ⟨fun a h => ?_⟩
     refine ow_then (hK66 _ _ ?_)
     refine wpSpine_seq rfl fun K hK104 => ?_
     refine fw_in h ?_
     have hH3 : c98 = hearC ({ ackC c s with win := s.wn } : EC) s := by subst hc98 hc51; unfold hearC; rw [if_pos hb_74]
     have hTT : (addTold c51.rn c51.ps s.sq s.d) = hearT ({ ackC c s with win := s.wn } : EC) s := by subst hc98 hc51; unfold hearT; rw [if_pos hb_74]
     obtain ⟨g1, g2, g3, g4⟩ := hearC_st ({ ackC c s with win := s.wn } : EC) s
     rw [← hH3] at g1 g2 g3 g4
     have hop : (c98).out.length ≤ 8192 := by rw [g1]; exact fo
     have hwp : 0 ≤ (c98).win ∧ (c98).win < 65536 := by rw [g2]; exact hswn
     have hsp : mayP c98 = true → 0 ≤ sentv c98 ∧ sentv c98 ≤ (c98).out.length := fun h => by rw [g3, g1]; exact fsn (g4 (mayP_st h))
     refine fw_sq ?_
     refine fw_rg rfl ?_
     iterate 2 refine fw_pu rfl ?_
     refine fw_dt ?_
     rcases Bool.eq_false_or_eq_true ((decide (0 < (segLen s)))) with hb_105 | hb_105
     ·skip
      refine fw_cT rfl hb_105 ?_
      refine fw_rg rfl ?_
      refine fw_pu rfl ?_
      refine fw_ca Try.func90 rfl rfl rfl ((cack_any (Mch.mk (rf := false) (c := c98) (T := T97) r100 hpsz96 hslz96 f103) (by rw [hl50]; have := hal; omega))) ?_
      rintro _ V106 ⟨rfl, hMz107, hKz107, hBz107⟩
      refine ⟨_, rfl, ?_⟩
      obtain ⟨l108, hl108⟩ : ∃ x, x = (ackN c98 l50) := ⟨_, rfl⟩
      rw [← hl108] at hMz107
      obtain ⟨aoz107, coz107, apz107, PLz107, cpz107, alz107, SLz107, clz107, hrz107, hpsz107, hslz107, hmoz107⟩ := Mch.opn hMz107
      have b109 := (b99.trans hBz107)
      have r110 := hrz107
      have f112 := (Kp.trans f102 (Kp.sub hKz107 (fun k hk => by simp [hk])))
      have f113 := hmoz107
      refine fw_dn ?_
      refine ⟨fun a h => ?_⟩
      refine ow_then (hK104 _ _ ?_)
      refine wpSpine_seq rfl fun K hK114 => ?_
      refine fw_in h ?_
      have hL3 : l108 = lenL (hearC ({ ackC c s with win := s.wn } : EC) s) (ackL c [] s) s := by rw [← hH3]; rw [hl108]; rw [hl50]; unfold lenL; rw [if_pos (of_decide_eq_true hb_105)]
      have hlp : l108.length ≤ 1000 := by rw [hl108, hl50]; have := hal; first | omega | (unfold ackN; simp only [List.length_append, List.length_singleton]; omega)
      refine fw_rg rfl ?_
      refine fw_pu rfl ?_
      refine fw_ca Try.func63 rfl rfl rfl ((pump_any (Mch.mk (rf := false) (c := c98) (T := T97) r110 hpsz107 hslz107 f113) hlp hop hwp hsp)) ?_
      rintro _ V115 ⟨rfl, hMz116, hKz116, hBz116⟩
      refine ⟨_, rfl, ?_⟩
      obtain ⟨l117, hl117⟩ : ∃ x, x = (pumpS c98 l108).2 := ⟨_, rfl⟩
      rw [← hl117] at hMz116
      obtain ⟨c118, hc118⟩ : ∃ x, x = (pumpS c98 l108).1 := ⟨_, rfl⟩
      rw [← hc118] at hMz116
      obtain ⟨aoz116, coz116, apz116, PLz116, cpz116, alz116, SLz116, clz116, hrz116, hpsz116, hslz116, hmoz116⟩ := Mch.opn hMz116
      have b119 := (b109.trans hBz116)
      have r120 := hrz116
      have f122 := (Kp.trans f112 (Kp.sub hKz116 (fun k hk => by simp [hk])))
      have f123 := hmoz116
      refine fw_dn ?_
      refine ⟨fun a h => ?_⟩
      refine ow_then (hK114 _ _ ?_)
      refine wpSpine_seq rfl fun K hK124 => ?_
      refine fw_in h ?_
      refine fw_sq ?_
      refine fw_rg rfl ?_
      iterate 5 refine fw_pu rfl ?_
      refine fw_ld r120 rfl rfl ?_
      iterate 2 refine fw_pu rfl ?_
      rcases Bool.eq_false_or_eq_true (c118.tm.on) with hb_125 | hb_125
      ·skip
       refine fw_kn 97 rfl (not_of hb_125) ?_
       iterate 20 refine fw_pu rfl ?_
       refine fw_dt ?_
       refine fw_fg [(0, _), (4, _), (117, _)] ⟨rfl, rfl, rfl, trivial⟩ ?_
       refine fw_cF rfl rfl ?_
       refine fw_sk ?_
       refine ⟨fun a h => ?_⟩
       refine ow_then (hK124 _ _ ?_)
       refine wpSpine_label (HJ _ _ ?_)
       refine fw_in h ?_
       refine fw_sq ?_
       refine fw_rg rfl ?_
       iterate 2 refine fw_pu rfl ?_
       refine fw_dt ?_
       refine fw_rt ?_
       refine ⟨fun a h => ?_⟩
       refine ow_nogoto_ret ?_
       have hLT := lastT_1 (c := c118) hb_125
       have hTG := takeS_go (by have h := hb_12; simpa using h) hb_21 hb_23 hb_35 hb_46 hb_57
       rw [← hTT, ← hL3, ← hH3, ← hc118] at hTG
       exact ow_ret1 rfl h.df (h.g 4 rfl) ⟨_, rfl, (by have h0 := (Mch.subH (H := H) (Mch.mk (rf := false) (c := c118) (T := T97) r120 hpsz116 hslz116 f123) (fun k hk => by simp [hk])); simp only [hl117, hT97] at h0; rw [hTG]; show Mch B H q false (lastT c118) _ _ _; rw [hLT]; exact h0), f122, b119⟩
      refine fw_kn 97 rfl (not_of hb_125) ?_
      refine fw_pu rfl ?_
      refine fw_ca Try.func82 rfl rfl rfl (sent_any q c118 _ _ _ V115 r120) ?_
      rintro _ V127 ⟨rfl, hb126⟩
      refine ⟨(.int .i64 (sentv c118)), rfl, ?_⟩
      have b128 := b119.trans (hb126.mono (Nat.le_trans hBw b119.size))
      have r129 := r120.below hb126
      have f131 := (Kp.trans f122 (Kp.of_below hb126))
      have f132 := (MO.below f123 hb126)
      iterate 3 refine fw_pu rfl ?_
      rcases Bool.eq_false_or_eq_true ((decide (0 < (sentv c118)))) with hb_133 | hb_133
      ·skip
       refine fw_kn 102 rfl hb_133 ?_
       iterate 4 refine fw_pu rfl ?_
       refine fw_ld r129 rfl rfl ?_
       iterate 3 refine fw_pu rfl ?_
       rcases Bool.eq_false_or_eq_true ((c118.st == 0)) with hb_134 | hb_134
       ·skip
        refine fw_kn 110 rfl (not_of hb_134) ?_
        iterate 7 refine fw_pu rfl ?_
        refine fw_dt ?_
        refine fw_fg [(0, _), (4, _), (117, _)] ⟨rfl, rfl, rfl, trivial⟩ ?_
        refine fw_cF rfl rfl ?_
        refine fw_sk ?_
        refine ⟨fun a h => ?_⟩
        refine ow_then (hK124 _ _ ?_)
        refine wpSpine_label (HJ _ _ ?_)
        refine fw_in h ?_
        refine fw_sq ?_
        refine fw_rg rfl ?_
        iterate 2 refine fw_pu rfl ?_
        refine fw_dt ?_
        refine fw_rt ?_
        refine ⟨fun a h => ?_⟩
        refine ow_nogoto_ret ?_
        have hLT := lastT_3 (c := c118) hb_134
        have hTG := takeS_go (by have h := hb_12; simpa using h) hb_21 hb_23 hb_35 hb_46 hb_57
        rw [← hTT, ← hL3, ← hH3, ← hc118] at hTG
        exact ow_ret1 rfl h.df (h.g 4 rfl) ⟨_, rfl, (by have h0 := (Mch.subH (H := H) (Mch.mk (rf := false) (c := c118) (T := T97) r129 hpsz116 hslz116 f132) (fun k hk => by simp [hk])); simp only [hl117, hT97] at h0; rw [hTG]; show Mch B H q false (lastT c118) _ _ _; rw [hLT]; exact h0), f131, b128⟩
       refine fw_kn 110 rfl (not_of hb_134) ?_
       iterate 4 refine fw_pu rfl ?_
       refine fw_ld r129 rfl rfl ?_
       iterate 2 refine fw_pu rfl ?_
       refine fw_dt ?_
       refine fw_fg [(0, _), (4, _), (117, _)] ⟨rfl, rfl, rfl, trivial⟩ ?_
       rcases Bool.eq_false_or_eq_true ((c118.st == 8)) with hb_135 | hb_135
       ·skip
        refine fw_cF rfl (not_of hb_135) ?_
        refine fw_sk ?_
        refine ⟨fun a h => ?_⟩
        refine ow_then (hK124 _ _ ?_)
        refine wpSpine_label (HJ _ _ ?_)
        refine fw_in h ?_
        refine fw_sq ?_
        refine fw_rg rfl ?_
        iterate 2 refine fw_pu rfl ?_
        refine fw_dt ?_
        refine fw_rt ?_
        refine ⟨fun a h => ?_⟩
        refine ow_nogoto_ret ?_
        have hLT := lastT_4 (c := c118) hb_135
        have hTG := takeS_go (by have h := hb_12; simpa using h) hb_21 hb_23 hb_35 hb_46 hb_57
        rw [← hTT, ← hL3, ← hH3, ← hc118] at hTG
        exact ow_ret1 rfl h.df (h.g 4 rfl) ⟨_, rfl, (by have h0 := (Mch.subH (H := H) (Mch.mk (rf := false) (c := c118) (T := T97) r129 hpsz116 hslz116 f132) (fun k hk => by simp [hk])); simp only [hl117, hT97] at h0; rw [hTG]; show Mch B H q false (lastT c118) _ _ _; rw [hLT]; exact h0), f131, b128⟩
       refine fw_cT rfl (not_of hb_135) ?_
       refine fw_rg rfl ?_
       refine fw_pu rfl ?_
       refine fw_ca Try.func70 rfl rfl rfl ((cstart_any (n := 3) (Mch.mk (rf := false) (c := c118) (T := T97) r129 hpsz116 hslz116 f132) (by decide) (by decide))) ?_
       rintro _ V136 ⟨rfl, hMz137, hKz137, hBz137⟩
       refine ⟨_, rfl, ?_⟩
       obtain ⟨c138, hc138⟩ : ∃ x, x = ({ c118 with tm := tmS 3 } : EC) := ⟨_, rfl⟩
       rw [← hc138] at hMz137
       obtain ⟨aoz137, coz137, apz137, PLz137, cpz137, alz137, SLz137, clz137, hrz137, hpsz137, hslz137, hmoz137⟩ := Mch.opn hMz137
       have b139 := (b128.trans hBz137)
       have r140 := hrz137
       have f142 := (Kp.trans f131 (Kp.sub hKz137 (fun k hk => by simp [hk])))
       have f143 := hmoz137
       refine fw_dn ?_
       refine ⟨fun a h => ?_⟩
       refine ow_then (hK124 _ _ ?_)
       refine wpSpine_label (HJ _ _ ?_)
       refine fw_in h ?_
       refine fw_sq ?_
       refine fw_rg rfl ?_
       iterate 2 refine fw_pu rfl ?_
       refine fw_dt ?_
       refine fw_rt ?_
       refine ⟨fun a h => ?_⟩
       refine ow_nogoto_ret ?_
       have hLT := lastT_5 (c := c118) hb_125 hb_133 hb_134 hb_135
       have hTG := takeS_go (by have h := hb_12; simpa using h) hb_21 hb_23 hb_35 hb_46 hb_57
       rw [← hTT, ← hL3, ← hH3, ← hc118] at hTG
       exact ow_ret1 rfl h.df (h.g 4 rfl) ⟨_, rfl, (by have h0 := (Mch.subH (H := H) (Mch.mk (rf := false) (c := c138) (T := T97) r140 hpsz137 hslz137 f143) (fun k hk => by simp [hk])); simp only [hl117, hT97, hc138] at h0; rw [hTG]; show Mch B H q false (lastT c118) _ _ _; rw [hLT]; exact h0), f142, b139⟩
      refine fw_kn 102 rfl hb_133 ?_
      iterate 15 refine fw_pu rfl ?_
      refine fw_dt ?_
      refine fw_fg [(0, _), (4, _), (117, _)] ⟨rfl, rfl, rfl, trivial⟩ ?_
      refine fw_cF rfl rfl ?_
      refine fw_sk ?_
      refine ⟨fun a h => ?_⟩
      refine ow_then (hK124 _ _ ?_)
      refine wpSpine_label (HJ _ _ ?_)
      refine fw_in h ?_
      refine fw_sq ?_
      refine fw_rg rfl ?_
      iterate 2 refine fw_pu rfl ?_
      refine fw_dt ?_
      refine fw_rt ?_
      refine ⟨fun a h => ?_⟩
      refine ow_nogoto_ret ?_
      have hLT := lastT_2 (c := c118) hb_133
      have hTG := takeS_go (by have h := hb_12; simpa using h) hb_21 hb_23 hb_35 hb_46 hb_57
      rw [← hTT, ← hL3, ← hH3, ← hc118] at hTG
      exact ow_ret1 rfl h.df (h.g 4 rfl) ⟨_, rfl, (by have h0 := (Mch.subH (H := H) (Mch.mk (rf := false) (c := c118) (T := T97) r129 hpsz116 hslz116 f132) (fun k hk => by simp [hk])); simp only [hl117, hT97] at h0; rw [hTG]; show Mch B H q false (lastT c118) _ _ _; rw [hLT]; exact h0), f131, b128⟩
     refine fw_cF rfl hb_105 ?_
     refine fw_sk ?_
     refine ⟨fun a h => ?_⟩
     refine ow_then (hK104 _ _ ?_)
     refine wpSpine_seq rfl fun K hK144 => ?_
     refine fw_in h ?_
     have hL3 : l50 = lenL (hearC ({ ackC c s with win := s.wn } : EC) s) (ackL c [] s) s := by rw [← hH3]; rw [hl50]; unfold lenL; rw [if_neg (of_decide_eq_false hb_105)]
     have hlp : l50.length ≤ 1000 := by rw [hl50]; have := hal; first | omega | (unfold ackN; simp only [List.length_append, List.length_singleton]; omega)
     refine fw_rg rfl ?_
     refine fw_pu rfl ?_
     refine fw_ca Try.func63 rfl rfl rfl ((pump_any (Mch.mk (rf := false) (c := c98) (T := T97) r100 hpsz96 hslz96 f103) hlp hop hwp hsp)) ?_
     rintro _ V145 ⟨rfl, hMz146, hKz146, hBz146⟩
     refine ⟨_, rfl, ?_⟩
     obtain ⟨l147, hl147⟩ : ∃ x, x = (pumpS c98 l50).2 := ⟨_, rfl⟩
     rw [← hl147] at hMz146
     obtain ⟨c148, hc148⟩ : ∃ x, x = (pumpS c98 l50).1 := ⟨_, rfl⟩
     rw [← hc148] at hMz146
     obtain ⟨aoz146, coz146, apz146, PLz146, cpz146, alz146, SLz146, clz146, hrz146, hpsz146, hslz146, hmoz146⟩ := Mch.opn hMz146
     have b149 := (b99.trans hBz146)
     have r150 := hrz146
     have f152 := (Kp.trans f102 (Kp.sub hKz146 (fun k hk => by simp [hk])))
     have f153 := hmoz146
     refine fw_dn ?_
     refine ⟨fun a h => ?_⟩
     refine ow_then (hK144 _ _ ?_)
     refine wpSpine_seq rfl fun K hK154 => ?_
     refine fw_in h ?_
     refine fw_sq ?_
     refine fw_rg rfl ?_
     iterate 5 refine fw_pu rfl ?_
     refine fw_ld r150 rfl rfl ?_
     iterate 2 refine fw_pu rfl ?_
     rcases Bool.eq_false_or_eq_true (c148.tm.on) with hb_155 | hb_155
     ·skip
      refine fw_kn 97 rfl (not_of hb_155) ?_
      iterate 20 refine fw_pu rfl ?_
      refine fw_dt ?_
      refine fw_fg [(0, _), (4, _), (117, _)] ⟨rfl, rfl, rfl, trivial⟩ ?_
      refine fw_cF rfl rfl ?_
      refine fw_sk ?_
      refine ⟨fun a h => ?_⟩
      refine ow_then (hK154 _ _ ?_)
      refine wpSpine_label (HJ _ _ ?_)
      refine fw_in h ?_
      refine fw_sq ?_
      refine fw_rg rfl ?_
      iterate 2 refine fw_pu rfl ?_
      refine fw_dt ?_
      refine fw_rt ?_
      refine ⟨fun a h => ?_⟩
      refine ow_nogoto_ret ?_
      have hLT := lastT_1 (c := c148) hb_155
      have hTG := takeS_go (by have h := hb_12; simpa using h) hb_21 hb_23 hb_35 hb_46 hb_57
      rw [← hTT, ← hL3, ← hH3, ← hc148] at hTG
      exact ow_ret1 rfl h.df (h.g 4 rfl) ⟨_, rfl, (by have h0 := (Mch.subH (H := H) (Mch.mk (rf := false) (c := c148) (T := T97) r150 hpsz146 hslz146 f153) (fun k hk => by simp [hk])); simp only [hl147, hT97] at h0; rw [hTG]; show Mch B H q false (lastT c148) _ _ _; rw [hLT]; exact h0), f152, b149⟩
     refine fw_kn 97 rfl (not_of hb_155) ?_
     refine fw_pu rfl ?_
     refine fw_ca Try.func82 rfl rfl rfl (sent_any q c148 _ _ _ V145 r150) ?_
     rintro _ V157 ⟨rfl, hb156⟩
     refine ⟨(.int .i64 (sentv c148)), rfl, ?_⟩
     have b158 := b149.trans (hb156.mono (Nat.le_trans hBw b149.size))
     have r159 := r150.below hb156
     have f161 := (Kp.trans f152 (Kp.of_below hb156))
     have f162 := (MO.below f153 hb156)
     iterate 3 refine fw_pu rfl ?_
     rcases Bool.eq_false_or_eq_true ((decide (0 < (sentv c148)))) with hb_163 | hb_163
     ·skip
      refine fw_kn 102 rfl hb_163 ?_
      iterate 4 refine fw_pu rfl ?_
      refine fw_ld r159 rfl rfl ?_
      iterate 3 refine fw_pu rfl ?_
      rcases Bool.eq_false_or_eq_true ((c148.st == 0)) with hb_164 | hb_164
      ·skip
       refine fw_kn 110 rfl (not_of hb_164) ?_
       iterate 7 refine fw_pu rfl ?_
       refine fw_dt ?_
       refine fw_fg [(0, _), (4, _), (117, _)] ⟨rfl, rfl, rfl, trivial⟩ ?_
       refine fw_cF rfl rfl ?_
       refine fw_sk ?_
       refine ⟨fun a h => ?_⟩
       refine ow_then (hK154 _ _ ?_)
       refine wpSpine_label (HJ _ _ ?_)
       refine fw_in h ?_
       refine fw_sq ?_
       refine fw_rg rfl ?_
       iterate 2 refine fw_pu rfl ?_
       refine fw_dt ?_
       refine fw_rt ?_
       refine ⟨fun a h => ?_⟩
       refine ow_nogoto_ret ?_
       have hLT := lastT_3 (c := c148) hb_164
       have hTG := takeS_go (by have h := hb_12; simpa using h) hb_21 hb_23 hb_35 hb_46 hb_57
       rw [← hTT, ← hL3, ← hH3, ← hc148] at hTG
       exact ow_ret1 rfl h.df (h.g 4 rfl) ⟨_, rfl, (by have h0 := (Mch.subH (H := H) (Mch.mk (rf := false) (c := c148) (T := T97) r159 hpsz146 hslz146 f162) (fun k hk => by simp [hk])); simp only [hl147, hT97] at h0; rw [hTG]; show Mch B H q false (lastT c148) _ _ _; rw [hLT]; exact h0), f161, b158⟩
      refine fw_kn 110 rfl (not_of hb_164) ?_
      iterate 4 refine fw_pu rfl ?_
      refine fw_ld r159 rfl rfl ?_
      iterate 2 refine fw_pu rfl ?_
      refine fw_dt ?_
      refine fw_fg [(0, _), (4, _), (117, _)] ⟨rfl, rfl, rfl, trivial⟩ ?_
      rcases Bool.eq_false_or_eq_true ((c148.st == 8)) with hb_165 | hb_165
      ·skip
       refine fw_cF rfl (not_of hb_165) ?_
       refine fw_sk ?_
       refine ⟨fun a h => ?_⟩
       refine ow_then (hK154 _ _ ?_)
       refine wpSpine_label (HJ _ _ ?_)
       refine fw_in h ?_
       refine fw_sq ?_
       refine fw_rg rfl ?_
       iterate 2 refine fw_pu rfl ?_
       refine fw_dt ?_
       refine fw_rt ?_
       refine ⟨fun a h => ?_⟩
       refine ow_nogoto_ret ?_
       have hLT := lastT_4 (c := c148) hb_165
       have hTG := takeS_go (by have h := hb_12; simpa using h) hb_21 hb_23 hb_35 hb_46 hb_57
       rw [← hTT, ← hL3, ← hH3, ← hc148] at hTG
       exact ow_ret1 rfl h.df (h.g 4 rfl) ⟨_, rfl, (by have h0 := (Mch.subH (H := H) (Mch.mk (rf := false) (c := c148) (T := T97) r159 hpsz146 hslz146 f162) (fun k hk => by simp [hk])); simp only [hl147, hT97] at h0; rw [hTG]; show Mch B H q false (lastT c148) _ _ _; rw [hLT]; exact h0), f161, b158⟩
      refine fw_cT rfl (not_of hb_165) ?_
      refine fw_rg rfl ?_
      refine fw_pu rfl ?_
      refine fw_ca Try.func70 rfl rfl rfl ((cstart_any (n := 3) (Mch.mk (rf := false) (c := c148) (T := T97) r159 hpsz146 hslz146 f162) (by decide) (by decide))) ?_
      rintro _ V166 ⟨rfl, hMz167, hKz167, hBz167⟩
      refine ⟨_, rfl, ?_⟩
      obtain ⟨c168, hc168⟩ : ∃ x, x = ({ c148 with tm := tmS 3 } : EC) := ⟨_, rfl⟩
      rw [← hc168] at hMz167
      obtain ⟨aoz167, coz167, apz167, PLz167, cpz167, alz167, SLz167, clz167, hrz167, hpsz167, hslz167, hmoz167⟩ := Mch.opn hMz167
      have b169 := (b158.trans hBz167)
      have r170 := hrz167
      have f172 := (Kp.trans f161 (Kp.sub hKz167 (fun k hk => by simp [hk])))
      have f173 := hmoz167
      refine fw_dn ?_
      refine ⟨fun a h => ?_⟩
      refine ow_then (hK154 _ _ ?_)
      refine wpSpine_label (HJ _ _ ?_)
      refine fw_in h ?_
      refine fw_sq ?_
      refine fw_rg rfl ?_
      iterate 2 refine fw_pu rfl ?_
      refine fw_dt ?_
      refine fw_rt ?_
      refine ⟨fun a h => ?_⟩
      refine ow_nogoto_ret ?_
      have hLT := lastT_5 (c := c148) hb_155 hb_163 hb_164 hb_165
      have hTG := takeS_go (by have h := hb_12; simpa using h) hb_21 hb_23 hb_35 hb_46 hb_57
      rw [← hTT, ← hL3, ← hH3, ← hc148] at hTG
      exact ow_ret1 rfl h.df (h.g 4 rfl) ⟨_, rfl, (by have h0 := (Mch.subH (H := H) (Mch.mk (rf := false) (c := c168) (T := T97) r170 hpsz167 hslz167 f173) (fun k hk => by simp [hk])); simp only [hl147, hT97, hc168] at h0; rw [hTG]; show Mch B H q false (lastT c148) _ _ _; rw [hLT]; exact h0), f172, b169⟩
     refine fw_kn 102 rfl hb_163 ?_
     iterate 15 refine fw_pu rfl ?_
     refine fw_dt ?_
     refine fw_fg [(0, _), (4, _), (117, _)] ⟨rfl, rfl, rfl, trivial⟩ ?_
     refine fw_cF rfl rfl ?_
     refine fw_sk ?_
     refine ⟨fun a h => ?_⟩
     refine ow_then (hK154 _ _ ?_)
     refine wpSpine_label (HJ _ _ ?_)
     refine fw_in h ?_
     refine fw_sq ?_
     refine fw_rg rfl ?_
     iterate 2 refine fw_pu rfl ?_
     refine fw_dt ?_
     refine fw_rt ?_
     refine ⟨fun a h => ?_⟩
     refine ow_nogoto_ret ?_
     have hLT := lastT_2 (c := c148) hb_163
     have hTG := takeS_go (by have h := hb_12; simpa using h) hb_21 hb_23 hb_35 hb_46 hb_57
     rw [← hTT, ← hL3, ← hH3, ← hc148] at hTG
     exact ow_ret1 rfl h.df (h.g 4 rfl) ⟨_, rfl, (by have h0 := (Mch.subH (H := H) (Mch.mk (rf := false) (c := c148) (T := T97) r159 hpsz146 hslz146 f162) (fun k hk => by simp [hk])); simp only [hl147, hT97] at h0; rw [hTG]; show Mch B H q false (lastT c148) _ _ _; rw [hLT]; exact h0), f161, b158⟩
    refine fw_cF rfl hb_74 ?_
    refine fw_sk ?_
    refine ⟨fun a h => ?_⟩
    refine ow_then (hK66 _ _ ?_)
    refine wpSpine_seq rfl fun K hK174 => ?_
    refine fw_in h ?_
    have hH3 : ({ c51 with win := s.wn } : EC) = hearC ({ ackC c s with win := s.wn } : EC) s := by subst hc51; unfold hearC; rw [if_neg (by rw [hb_74]; exact Bool.false_ne_true)]
    have hTT : ([] : List UInt8) = hearT ({ ackC c s with win := s.wn } : EC) s := by subst hc51; unfold hearT; rw [if_neg (by rw [hb_74]; exact Bool.false_ne_true)]
    obtain ⟨g1, g2, g3, g4⟩ := hearC_st ({ ackC c s with win := s.wn } : EC) s
    rw [← hH3] at g1 g2 g3 g4
    have hop : (({ c51 with win := s.wn } : EC)).out.length ≤ 8192 := by rw [g1]; exact fo
    have hwp : 0 ≤ (({ c51 with win := s.wn } : EC)).win ∧ (({ c51 with win := s.wn } : EC)).win < 65536 := by rw [g2]; exact hswn
    have hsp : mayP ({ c51 with win := s.wn } : EC) = true → 0 ≤ sentv ({ c51 with win := s.wn } : EC) ∧ sentv ({ c51 with win := s.wn } : EC) ≤ (({ c51 with win := s.wn } : EC)).out.length := fun h => by rw [g3, g1]; exact fsn (g4 (mayP_st h))
    refine fw_sq ?_
    refine fw_rg rfl ?_
    iterate 2 refine fw_pu rfl ?_
    refine fw_dt ?_
    rcases Bool.eq_false_or_eq_true ((decide (0 < (segLen s)))) with hb_175 | hb_175
    ·skip
     refine fw_cT rfl hb_175 ?_
     refine fw_rg rfl ?_
     refine fw_pu rfl ?_
     refine fw_ca Try.func90 rfl rfl rfl ((cack_any (Mch.mk (rf := false) (c := ({ c51 with win := s.wn } : EC)) (T := T49) r70 hpsz48 hslz48 f72) (by rw [hl50]; have := hal; omega))) ?_
     rintro _ V176 ⟨rfl, hMz177, hKz177, hBz177⟩
     refine ⟨_, rfl, ?_⟩
     obtain ⟨l178, hl178⟩ : ∃ x, x = (ackN ({ c51 with win := s.wn } : EC) l50) := ⟨_, rfl⟩
     rw [← hl178] at hMz177
     obtain ⟨c179, hc179⟩ : ∃ x, x = ({ c51 with win := s.wn } : EC) := ⟨_, rfl⟩
     rw [← hc179] at hMz177
     obtain ⟨aoz177, coz177, apz177, PLz177, cpz177, alz177, SLz177, clz177, hrz177, hpsz177, hslz177, hmoz177⟩ := Mch.opn hMz177
     have b180 := (b69.trans hBz177)
     have r181 := hrz177
     have f183 := hmoz177
     have f184 := (Kp.trans f73 (Kp.sub hKz177 (fun k hk => by simp [hk])))
     refine fw_dn ?_
     refine ⟨fun a h => ?_⟩
     refine ow_then (hK174 _ _ ?_)
     refine wpSpine_seq rfl fun K hK185 => ?_
     refine fw_in h ?_
     have hH3 : c179 = hearC ({ ackC c s with win := s.wn } : EC) s := by rw [hc179]; exact hH3
     have hop : c179.out.length ≤ 8192 := by rw [hc179]; exact hop
     have hwp : 0 ≤ c179.win ∧ c179.win < 65536 := by rw [hc179]; exact hwp
     have hsp : mayP c179 = true → 0 ≤ sentv c179 ∧ sentv c179 ≤ c179.out.length := by rw [hc179]; exact hsp
     have hL3 : l178 = lenL (hearC ({ ackC c s with win := s.wn } : EC) s) (ackL c [] s) s := by rw [← hH3]; rw [hl178]; rw [hl50]; unfold lenL; rw [if_pos (of_decide_eq_true hb_175)]; rw [hc179]
     have hlp : l178.length ≤ 1000 := by rw [hl178, hl50]; have := hal; first | omega | (unfold ackN; simp only [List.length_append, List.length_singleton]; omega)
     refine fw_rg rfl ?_
     refine fw_pu rfl ?_
     refine fw_ca Try.func63 rfl rfl rfl ((pump_any (Mch.mk (rf := false) (c := c179) (T := T49) r181 hpsz177 hslz177 f183) hlp hop hwp hsp)) ?_
     rintro _ V186 ⟨rfl, hMz187, hKz187, hBz187⟩
     refine ⟨_, rfl, ?_⟩
     obtain ⟨l188, hl188⟩ : ∃ x, x = (pumpS c179 l178).2 := ⟨_, rfl⟩
     rw [← hl188] at hMz187
     obtain ⟨c189, hc189⟩ : ∃ x, x = (pumpS c179 l178).1 := ⟨_, rfl⟩
     rw [← hc189] at hMz187
     obtain ⟨aoz187, coz187, apz187, PLz187, cpz187, alz187, SLz187, clz187, hrz187, hpsz187, hslz187, hmoz187⟩ := Mch.opn hMz187
     have b190 := (b180.trans hBz187)
     have r191 := hrz187
     have f193 := hmoz187
     have f194 := (Kp.trans f184 (Kp.sub hKz187 (fun k hk => by simp [hk])))
     refine fw_dn ?_
     refine ⟨fun a h => ?_⟩
     refine ow_then (hK185 _ _ ?_)
     refine wpSpine_seq rfl fun K hK195 => ?_
     refine fw_in h ?_
     refine fw_sq ?_
     refine fw_rg rfl ?_
     iterate 5 refine fw_pu rfl ?_
     refine fw_ld r191 rfl rfl ?_
     iterate 2 refine fw_pu rfl ?_
     rcases Bool.eq_false_or_eq_true (c189.tm.on) with hb_196 | hb_196
     ·skip
      refine fw_kn 97 rfl (not_of hb_196) ?_
      iterate 20 refine fw_pu rfl ?_
      refine fw_dt ?_
      refine fw_fg [(0, _), (4, _), (117, _)] ⟨rfl, rfl, rfl, trivial⟩ ?_
      refine fw_cF rfl rfl ?_
      refine fw_sk ?_
      refine ⟨fun a h => ?_⟩
      refine ow_then (hK195 _ _ ?_)
      refine wpSpine_label (HJ _ _ ?_)
      refine fw_in h ?_
      refine fw_sq ?_
      refine fw_rg rfl ?_
      iterate 2 refine fw_pu rfl ?_
      refine fw_dt ?_
      refine fw_rt ?_
      refine ⟨fun a h => ?_⟩
      refine ow_nogoto_ret ?_
      have hLT := lastT_1 (c := c189) hb_196
      have hTG := takeS_go (by have h := hb_12; simpa using h) hb_21 hb_23 hb_35 hb_46 hb_57
      rw [← hTT, ← hL3, ← hH3, ← hc189] at hTG
      exact ow_ret1 rfl h.df (h.g 4 rfl) ⟨_, rfl, (by have h0 := (Mch.subH (H := H) (Mch.mk (rf := false) (c := c189) (T := T49) r191 hpsz187 hslz187 f193) (fun k hk => by simp [hk])); simp only [hl188, hT49] at h0; rw [hTG]; show Mch B H q false (lastT c189) _ _ _; rw [hLT]; exact h0), f194, b190⟩
     refine fw_kn 97 rfl (not_of hb_196) ?_
     refine fw_pu rfl ?_
     refine fw_ca Try.func82 rfl rfl rfl (sent_any q c189 _ _ _ V186 r191) ?_
     rintro _ V198 ⟨rfl, hb197⟩
     refine ⟨(.int .i64 (sentv c189)), rfl, ?_⟩
     have b199 := b190.trans (hb197.mono (Nat.le_trans hBw b190.size))
     have r200 := r191.below hb197
     have f202 := (MO.below f193 hb197)
     have f203 := (Kp.trans f194 (Kp.of_below hb197))
     iterate 3 refine fw_pu rfl ?_
     rcases Bool.eq_false_or_eq_true ((decide (0 < (sentv c189)))) with hb_204 | hb_204
     ·skip
      refine fw_kn 102 rfl hb_204 ?_
      iterate 4 refine fw_pu rfl ?_
      refine fw_ld r200 rfl rfl ?_
      iterate 3 refine fw_pu rfl ?_
      rcases Bool.eq_false_or_eq_true ((c189.st == 0)) with hb_205 | hb_205
      ·skip
       refine fw_kn 110 rfl (not_of hb_205) ?_
       iterate 7 refine fw_pu rfl ?_
       refine fw_dt ?_
       refine fw_fg [(0, _), (4, _), (117, _)] ⟨rfl, rfl, rfl, trivial⟩ ?_
       refine fw_cF rfl rfl ?_
       refine fw_sk ?_
       refine ⟨fun a h => ?_⟩
       refine ow_then (hK195 _ _ ?_)
       refine wpSpine_label (HJ _ _ ?_)
       refine fw_in h ?_
       refine fw_sq ?_
       refine fw_rg rfl ?_
       iterate 2 refine fw_pu rfl ?_
       refine fw_dt ?_
       refine fw_rt ?_
       refine ⟨fun a h => ?_⟩
       refine ow_nogoto_ret ?_
       have hLT := lastT_3 (c := c189) hb_205
       have hTG := takeS_go (by have h := hb_12; simpa using h) hb_21 hb_23 hb_35 hb_46 hb_57
       rw [← hTT, ← hL3, ← hH3, ← hc189] at hTG
       exact ow_ret1 rfl h.df (h.g 4 rfl) ⟨_, rfl, (by have h0 := (Mch.subH (H := H) (Mch.mk (rf := false) (c := c189) (T := T49) r200 hpsz187 hslz187 f202) (fun k hk => by simp [hk])); simp only [hl188, hT49] at h0; rw [hTG]; show Mch B H q false (lastT c189) _ _ _; rw [hLT]; exact h0), f203, b199⟩
      refine fw_kn 110 rfl (not_of hb_205) ?_
      iterate 4 refine fw_pu rfl ?_
      refine fw_ld r200 rfl rfl ?_
      iterate 2 refine fw_pu rfl ?_
      refine fw_dt ?_
      refine fw_fg [(0, _), (4, _), (117, _)] ⟨rfl, rfl, rfl, trivial⟩ ?_
      rcases Bool.eq_false_or_eq_true ((c189.st == 8)) with hb_206 | hb_206
      ·skip
       refine fw_cF rfl (not_of hb_206) ?_
       refine fw_sk ?_
       refine ⟨fun a h => ?_⟩
       refine ow_then (hK195 _ _ ?_)
       refine wpSpine_label (HJ _ _ ?_)
       refine fw_in h ?_
       refine fw_sq ?_
       refine fw_rg rfl ?_
       iterate 2 refine fw_pu rfl ?_
       refine fw_dt ?_
       refine fw_rt ?_
       refine ⟨fun a h => ?_⟩
       refine ow_nogoto_ret ?_
       have hLT := lastT_4 (c := c189) hb_206
       have hTG := takeS_go (by have h := hb_12; simpa using h) hb_21 hb_23 hb_35 hb_46 hb_57
       rw [← hTT, ← hL3, ← hH3, ← hc189] at hTG
       exact ow_ret1 rfl h.df (h.g 4 rfl) ⟨_, rfl, (by have h0 := (Mch.subH (H := H) (Mch.mk (rf := false) (c := c189) (T := T49) r200 hpsz187 hslz187 f202) (fun k hk => by simp [hk])); simp only [hl188, hT49] at h0; rw [hTG]; show Mch B H q false (lastT c189) _ _ _; rw [hLT]; exact h0), f203, b199⟩
      refine fw_cT rfl (not_of hb_206) ?_
      refine fw_rg rfl ?_
      refine fw_pu rfl ?_
      refine fw_ca Try.func70 rfl rfl rfl ((cstart_any (n := 3) (Mch.mk (rf := false) (c := c189) (T := T49) r200 hpsz187 hslz187 f202) (by decide) (by decide))) ?_
      rintro _ V207 ⟨rfl, hMz208, hKz208, hBz208⟩
      refine ⟨_, rfl, ?_⟩
      obtain ⟨c209, hc209⟩ : ∃ x, x = ({ c189 with tm := tmS 3 } : EC) := ⟨_, rfl⟩
      rw [← hc209] at hMz208
      obtain ⟨aoz208, coz208, apz208, PLz208, cpz208, alz208, SLz208, clz208, hrz208, hpsz208, hslz208, hmoz208⟩ := Mch.opn hMz208
      have b210 := (b199.trans hBz208)
      have r211 := hrz208
      have f213 := hmoz208
      have f214 := (Kp.trans f203 (Kp.sub hKz208 (fun k hk => by simp [hk])))
      refine fw_dn ?_
      refine ⟨fun a h => ?_⟩
      refine ow_then (hK195 _ _ ?_)
      refine wpSpine_label (HJ _ _ ?_)
      refine fw_in h ?_
      refine fw_sq ?_
      refine fw_rg rfl ?_
      iterate 2 refine fw_pu rfl ?_
      refine fw_dt ?_
      refine fw_rt ?_
      refine ⟨fun a h => ?_⟩
      refine ow_nogoto_ret ?_
      have hLT := lastT_5 (c := c189) hb_196 hb_204 hb_205 hb_206
      have hTG := takeS_go (by have h := hb_12; simpa using h) hb_21 hb_23 hb_35 hb_46 hb_57
      rw [← hTT, ← hL3, ← hH3, ← hc189] at hTG
      exact ow_ret1 rfl h.df (h.g 4 rfl) ⟨_, rfl, (by have h0 := (Mch.subH (H := H) (Mch.mk (rf := false) (c := c209) (T := T49) r211 hpsz208 hslz208 f213) (fun k hk => by simp [hk])); simp only [hl188, hT49, hc209] at h0; rw [hTG]; show Mch B H q false (lastT c189) _ _ _; rw [hLT]; exact h0), f214, b210⟩
     refine fw_kn 102 rfl hb_204 ?_
     iterate 15 refine fw_pu rfl ?_
     refine fw_dt ?_
     refine fw_fg [(0, _), (4, _), (117, _)] ⟨rfl, rfl, rfl, trivial⟩ ?_
     refine fw_cF rfl rfl ?_
     refine fw_sk ?_
     refine ⟨fun a h => ?_⟩
     refine ow_then (hK195 _ _ ?_)
     refine wpSpine_label (HJ _ _ ?_)
     refine fw_in h ?_
     refine fw_sq ?_
     refine fw_rg rfl ?_
     iterate 2 refine fw_pu rfl ?_
     refine fw_dt ?_
     refine fw_rt ?_
     refine ⟨fun a h => ?_⟩
     refine ow_nogoto_ret ?_
     have hLT := lastT_2 (c := c189) hb_204
     have hTG := takeS_go (by have h := hb_12; simpa using h) hb_21 hb_23 hb_35 hb_46 hb_57
     rw [← hTT, ← hL3, ← hH3, ← hc189] at hTG
     exact ow_ret1 rfl h.df (h.g 4 rfl) ⟨_, rfl, (by have h0 := (Mch.subH (H := H) (Mch.mk (rf := false) (c := c189) (T := T49) r200 hpsz187 hslz187 f202) (fun k hk => by simp [hk])); simp only [hl188, hT49] at h0; rw [hTG]; show Mch B H q false (lastT c189) _ _ _; rw [hLT]; exact h0), f203, b199⟩
    refine fw_cF rfl hb_175 ?_
    refine fw_sk ?_
    refine ⟨fun a h => ?_⟩
    refine ow_then (hK174 _ _ ?_)
    refine wpSpine_seq rfl fun K hK215 => ?_
    refine fw_in h ?_
    have hL3 : l50 = lenL (hearC ({ ackC c s with win := s.wn } : EC) s) (ackL c [] s) s := by rw [← hH3]; rw [hl50]; unfold lenL; rw [if_neg (of_decide_eq_false hb_175)]
    have hlp : l50.length ≤ 1000 := by rw [hl50]; have := hal; first | omega | (unfold ackN; simp only [List.length_append, List.length_singleton]; omega)
    refine fw_rg rfl ?_
    refine fw_pu rfl ?_
    refine fw_ca Try.func63 rfl rfl rfl ((pump_any (Mch.mk (rf := false) (c := ({ c51 with win := s.wn } : EC)) (T := T49) r70 hpsz48 hslz48 f72) hlp hop hwp hsp)) ?_
    rintro _ V216 ⟨rfl, hMz217, hKz217, hBz217⟩
    refine ⟨_, rfl, ?_⟩
    obtain ⟨l218, hl218⟩ : ∃ x, x = (pumpS ({ c51 with win := s.wn } : EC) l50).2 := ⟨_, rfl⟩
    rw [← hl218] at hMz217
    obtain ⟨c219, hc219⟩ : ∃ x, x = (pumpS ({ c51 with win := s.wn } : EC) l50).1 := ⟨_, rfl⟩
    rw [← hc219] at hMz217
    obtain ⟨aoz217, coz217, apz217, PLz217, cpz217, alz217, SLz217, clz217, hrz217, hpsz217, hslz217, hmoz217⟩ := Mch.opn hMz217
    have b220 := (b69.trans hBz217)
    have r221 := hrz217
    have f223 := hmoz217
    have f224 := (Kp.trans f73 (Kp.sub hKz217 (fun k hk => by simp [hk])))
    refine fw_dn ?_
    refine ⟨fun a h => ?_⟩
    refine ow_then (hK215 _ _ ?_)
    refine wpSpine_seq rfl fun K hK225 => ?_
    refine fw_in h ?_
    refine fw_sq ?_
    refine fw_rg rfl ?_
    iterate 5 refine fw_pu rfl ?_
    refine fw_ld r221 rfl rfl ?_
    iterate 2 refine fw_pu rfl ?_
    rcases Bool.eq_false_or_eq_true (c219.tm.on) with hb_226 | hb_226
    ·skip
     refine fw_kn 97 rfl (not_of hb_226) ?_
     iterate 20 refine fw_pu rfl ?_
     refine fw_dt ?_
     refine fw_fg [(0, _), (4, _), (117, _)] ⟨rfl, rfl, rfl, trivial⟩ ?_
     refine fw_cF rfl rfl ?_
     refine fw_sk ?_
     refine ⟨fun a h => ?_⟩
     refine ow_then (hK225 _ _ ?_)
     refine wpSpine_label (HJ _ _ ?_)
     refine fw_in h ?_
     refine fw_sq ?_
     refine fw_rg rfl ?_
     iterate 2 refine fw_pu rfl ?_
     refine fw_dt ?_
     refine fw_rt ?_
     refine ⟨fun a h => ?_⟩
     refine ow_nogoto_ret ?_
     have hLT := lastT_1 (c := c219) hb_226
     have hTG := takeS_go (by have h := hb_12; simpa using h) hb_21 hb_23 hb_35 hb_46 hb_57
     rw [← hTT, ← hL3, ← hH3, ← hc219] at hTG
     exact ow_ret1 rfl h.df (h.g 4 rfl) ⟨_, rfl, (by have h0 := (Mch.subH (H := H) (Mch.mk (rf := false) (c := c219) (T := T49) r221 hpsz217 hslz217 f223) (fun k hk => by simp [hk])); simp only [hl218, hT49] at h0; rw [hTG]; show Mch B H q false (lastT c219) _ _ _; rw [hLT]; exact h0), f224, b220⟩
    refine fw_kn 97 rfl (not_of hb_226) ?_
    refine fw_pu rfl ?_
    refine fw_ca Try.func82 rfl rfl rfl (sent_any q c219 _ _ _ V216 r221) ?_
    rintro _ V228 ⟨rfl, hb227⟩
    refine ⟨(.int .i64 (sentv c219)), rfl, ?_⟩
    have b229 := b220.trans (hb227.mono (Nat.le_trans hBw b220.size))
    have r230 := r221.below hb227
    have f232 := (MO.below f223 hb227)
    have f233 := (Kp.trans f224 (Kp.of_below hb227))
    iterate 3 refine fw_pu rfl ?_
    rcases Bool.eq_false_or_eq_true ((decide (0 < (sentv c219)))) with hb_234 | hb_234
    ·skip
     refine fw_kn 102 rfl hb_234 ?_
     iterate 4 refine fw_pu rfl ?_
     refine fw_ld r230 rfl rfl ?_
     iterate 3 refine fw_pu rfl ?_
     rcases Bool.eq_false_or_eq_true ((c219.st == 0)) with hb_235 | hb_235
     ·skip
      refine fw_kn 110 rfl (not_of hb_235) ?_
      iterate 7 refine fw_pu rfl ?_
      refine fw_dt ?_
      refine fw_fg [(0, _), (4, _), (117, _)] ⟨rfl, rfl, rfl, trivial⟩ ?_
      refine fw_cF rfl rfl ?_
      refine fw_sk ?_
      refine ⟨fun a h => ?_⟩
      refine ow_then (hK225 _ _ ?_)
      refine wpSpine_label (HJ _ _ ?_)
      refine fw_in h ?_
      refine fw_sq ?_
      refine fw_rg rfl ?_
      iterate 2 refine fw_pu rfl ?_
      refine fw_dt ?_
      refine fw_rt ?_
      refine ⟨fun a h => ?_⟩
      refine ow_nogoto_ret ?_
      have hLT := lastT_3 (c := c219) hb_235
      have hTG := takeS_go (by have h := hb_12; simpa using h) hb_21 hb_23 hb_35 hb_46 hb_57
      rw [← hTT, ← hL3, ← hH3, ← hc219] at hTG
      exact ow_ret1 rfl h.df (h.g 4 rfl) ⟨_, rfl, (by have h0 := (Mch.subH (H := H) (Mch.mk (rf := false) (c := c219) (T := T49) r230 hpsz217 hslz217 f232) (fun k hk => by simp [hk])); simp only [hl218, hT49] at h0; rw [hTG]; show Mch B H q false (lastT c219) _ _ _; rw [hLT]; exact h0), f233, b229⟩
     refine fw_kn 110 rfl (not_of hb_235) ?_
     iterate 4 refine fw_pu rfl ?_
     refine fw_ld r230 rfl rfl ?_
     iterate 2 refine fw_pu rfl ?_
     refine fw_dt ?_
     refine fw_fg [(0, _), (4, _), (117, _)] ⟨rfl, rfl, rfl, trivial⟩ ?_
     rcases Bool.eq_false_or_eq_true ((c219.st == 8)) with hb_236 | hb_236
     ·skip
      refine fw_cF rfl (not_of hb_236) ?_
      refine fw_sk ?_
      refine ⟨fun a h => ?_⟩
      refine ow_then (hK225 _ _ ?_)
      refine wpSpine_label (HJ _ _ ?_)
      refine fw_in h ?_
      refine fw_sq ?_
      refine fw_rg rfl ?_
      iterate 2 refine fw_pu rfl ?_
      refine fw_dt ?_
      refine fw_rt ?_
      refine ⟨fun a h => ?_⟩
      refine ow_nogoto_ret ?_
      have hLT := lastT_4 (c := c219) hb_236
      have hTG := takeS_go (by have h := hb_12; simpa using h) hb_21 hb_23 hb_35 hb_46 hb_57
      rw [← hTT, ← hL3, ← hH3, ← hc219] at hTG
      exact ow_ret1 rfl h.df (h.g 4 rfl) ⟨_, rfl, (by have h0 := (Mch.subH (H := H) (Mch.mk (rf := false) (c := c219) (T := T49) r230 hpsz217 hslz217 f232) (fun k hk => by simp [hk])); simp only [hl218, hT49] at h0; rw [hTG]; show Mch B H q false (lastT c219) _ _ _; rw [hLT]; exact h0), f233, b229⟩
     refine fw_cT rfl (not_of hb_236) ?_
     refine fw_rg rfl ?_
     refine fw_pu rfl ?_
     refine fw_ca Try.func70 rfl rfl rfl ((cstart_any (n := 3) (Mch.mk (rf := false) (c := c219) (T := T49) r230 hpsz217 hslz217 f232) (by decide) (by decide))) ?_
     rintro _ V237 ⟨rfl, hMz238, hKz238, hBz238⟩
     refine ⟨_, rfl, ?_⟩
     obtain ⟨c239, hc239⟩ : ∃ x, x = ({ c219 with tm := tmS 3 } : EC) := ⟨_, rfl⟩
     rw [← hc239] at hMz238
     obtain ⟨aoz238, coz238, apz238, PLz238, cpz238, alz238, SLz238, clz238, hrz238, hpsz238, hslz238, hmoz238⟩ := Mch.opn hMz238
     have b240 := (b229.trans hBz238)
     have r241 := hrz238
     have f243 := hmoz238
     have f244 := (Kp.trans f233 (Kp.sub hKz238 (fun k hk => by simp [hk])))
     refine fw_dn ?_
     refine ⟨fun a h => ?_⟩
     refine ow_then (hK225 _ _ ?_)
     refine wpSpine_label (HJ _ _ ?_)
     refine fw_in h ?_
     refine fw_sq ?_
     refine fw_rg rfl ?_
     iterate 2 refine fw_pu rfl ?_
     refine fw_dt ?_
     refine fw_rt ?_
     refine ⟨fun a h => ?_⟩
     refine ow_nogoto_ret ?_
     have hLT := lastT_5 (c := c219) hb_226 hb_234 hb_235 hb_236
     have hTG := takeS_go (by have h := hb_12; simpa using h) hb_21 hb_23 hb_35 hb_46 hb_57
     rw [← hTT, ← hL3, ← hH3, ← hc219] at hTG
     exact ow_ret1 rfl h.df (h.g 4 rfl) ⟨_, rfl, (by have h0 := (Mch.subH (H := H) (Mch.mk (rf := false) (c := c239) (T := T49) r241 hpsz238 hslz238 f243) (fun k hk => by simp [hk])); simp only [hl218, hT49, hc239] at h0; rw [hTG]; show Mch B H q false (lastT c219) _ _ _; rw [hLT]; exact h0), f244, b240⟩
    refine fw_kn 102 rfl hb_234 ?_
    iterate 15 refine fw_pu rfl ?_
    refine fw_dt ?_
    refine fw_fg [(0, _), (4, _), (117, _)] ⟨rfl, rfl, rfl, trivial⟩ ?_
    refine fw_cF rfl rfl ?_
    refine fw_sk ?_
    refine ⟨fun a h => ?_⟩
    refine ow_then (hK225 _ _ ?_)
    refine wpSpine_label (HJ _ _ ?_)
    refine fw_in h ?_
    refine fw_sq ?_
    refine fw_rg rfl ?_
    iterate 2 refine fw_pu rfl ?_
    refine fw_dt ?_
    refine fw_rt ?_
    refine ⟨fun a h => ?_⟩
    refine ow_nogoto_ret ?_
    have hLT := lastT_2 (c := c219) hb_234
    have hTG := takeS_go (by have h := hb_12; simpa using h) hb_21 hb_23 hb_35 hb_46 hb_57
    rw [← hTT, ← hL3, ← hH3, ← hc219] at hTG
    exact ow_ret1 rfl h.df (h.g 4 rfl) ⟨_, rfl, (by have h0 := (Mch.subH (H := H) (Mch.mk (rf := false) (c := c219) (T := T49) r230 hpsz217 hslz217 f232) (fun k hk => by simp [hk])); simp only [hl218, hT49] at h0; rw [hTG]; show Mch B H q false (lastT c219) _ _ _; rw [hLT]; exact h0), f233, b229⟩
   refine fw_cT rfl (not_of hb_57) ?_
   refine fw_go ?_
   refine ⟨fun a h => ?_⟩
   refine ow_then_goto (ow_jump (HJ _ _ ?_))
   refine fw_in h ?_
   refine fw_sq ?_
   refine fw_rg rfl ?_
   iterate 2 refine fw_pu rfl ?_
   refine fw_dt ?_
   refine fw_rt ?_
   refine ⟨fun a h => ?_⟩
   refine ow_nogoto_ret ?_
   exact ow_ret1 rfl h.df (h.g 4 rfl) ⟨_, rfl, (by have h0 := (Mch.subH (H := H) (Mch.mk (rf := false) (c := c51) (T := T49) r53 hpsz48 hslz48 f55) (fun k hk => by simp [hk])); simp only [hc51, hl50, hT49] at h0; rw [takeS_nak (by have h := hb_12; simpa using h) hb_21 hb_23 hb_35 hb_46 hb_57]; exact h0), f56, b52⟩
  refine fw_kn 49 rfl (not_of hb_46) ?_
  iterate 5 refine fw_pu rfl ?_
  refine fw_dt ?_
  refine fw_cT rfl rfl ?_
  refine fw_go ?_
  refine ⟨fun a h => ?_⟩
  refine ow_then_goto (ow_jump (HJ _ _ ?_))
  refine fw_in h ?_
  refine fw_sq ?_
  refine fw_rg rfl ?_
  iterate 2 refine fw_pu rfl ?_
  refine fw_dt ?_
  refine fw_rt ?_
  refine ⟨fun a h => ?_⟩
  refine ow_nogoto_ret ?_
  exact ow_ret1 rfl h.df (h.g 4 rfl) ⟨_, rfl, (by have h0 := (Mch.subH (H := H) (Mch.mk (rf := false) (c := c) (T := (⟨[], .slice none 0 0⟩ : Td)) r17 hps hsl f19) (fun k hk => by simp [hk])); rw [takeS_no (by have h := hb_12; simpa using h) hb_21 hb_23 hb_35 hb_46]; exact h0), f20, b16⟩
 refine fw_cT rfl (not_of hb_21) ?_
 refine fw_sq ?_
 refine fw_rg rfl ?_
 refine fw_pu rfl ?_
 refine fw_ld r18 rfl rfl ?_
 refine fw_ca Try.func89 rfl rfl rfl ((out_any (s := s) (Mch.mk (rf := false) (c := c) (T := (⟨[], .slice none 0 0⟩ : Td)) r17 hps hsl f19) (by simp))) ?_
 rintro _ V245 ⟨rfl, hMz246, hKz246, hBz246⟩
 refine ⟨_, rfl, ?_⟩
 obtain ⟨T247, hT247⟩ : ∃ x, x = (⟨[], .slice none 0 0⟩ : Td) := ⟨_, rfl⟩
 rw [← hT247] at hMz246
 obtain ⟨l248, hl248⟩ : ∃ x, x = (outS c ([] : List ES) s).2 := ⟨_, rfl⟩
 rw [← hl248] at hMz246
 obtain ⟨c249, hc249⟩ : ∃ x, x = (outS c ([] : List ES) s).1 := ⟨_, rfl⟩
 rw [← hc249] at hMz246
 obtain ⟨aoz246, coz246, apz246, PLz246, cpz246, alz246, SLz246, clz246, hrz246, hpsz246, hslz246, hmoz246⟩ := Mch.opn hMz246
 have b250 := (b16.trans hBz246)
 have r251 := hrz246
 have f253 := hmoz246
 have f254 := (Kp.trans f20 (Kp.sub hKz246 (fun k hk => by simp [hk])))
 refine fw_dt ?_
 refine fw_fg [(4, _)] ⟨rfl, trivial⟩ ?_
 refine fw_go ?_
 refine ⟨fun a h => ?_⟩
 refine ow_then_goto (ow_jump (HJ _ _ ?_))
 refine fw_in h ?_
 refine fw_sq ?_
 refine fw_rg rfl ?_
 iterate 2 refine fw_pu rfl ?_
 refine fw_dt ?_
 refine fw_rt ?_
 refine ⟨fun a h => ?_⟩
 refine ow_nogoto_ret ?_
 exact ow_ret1 rfl h.df (h.g 4 rfl) ⟨_, rfl, (by have h0 := (Mch.subH (H := H) (Mch.mk (rf := false) (c := c249) (T := T247) r251 hpsz246 hslz246 f253) (fun k hk => by simp [hk])); simp only [hc249, hl248, hT247] at h0; rw [takeS_out (by have h := hb_12; simpa using h) hb_21]; exact h0), f254, b250⟩

def isN (x : Int) : Bool := decide (0 ≤ x) && decide (x < 4294967296)
def isP (x : Int) : Bool := decide (0 ≤ x) && decide (x < 65536)
def segB (s : ES) : Bool := isP s.sp && (isP s.dp && (isN s.sq && (isN s.ak && (decide (0 ≤ s.fl) && (decide (s.fl ≤ 63) && (isP s.wn && decide (((s.d.length : Nat) : Int) ≤ 1460)))))))
theorem segB_ok (s : ES) : segB s = okS s := by
  unfold segB okS isN isP
  rw [Bool.eq_iff_iff]
  simp only [Bool.and_eq_true, decide_eq_true_eq]
  omega
def numB (c : EC) : Bool := !(decide (c.link < 0)) && (!(decide (1099511627776 < c.link)) && (isN c.ip && (isP c.pp && (isP c.po && (!(decide (c.st < 0)) && (!(decide (8 < c.st)) && (isN c.una && (isN c.nxt && (isP c.win && (!(decide (8192 < ((c.out.length : Nat) : Int))) && (bufB c.rn c.ps && tv c.tm)))))))))))
theorem numB_ok (c : EC) : numB c = okNum c := by
  unfold numB okNum isN isP
  rw [Bool.eq_iff_iff]
  simp only [Bool.and_eq_true, decide_eq_true_eq, Bool.not_eq_true', decide_eq_false_iff_not]
  generalize bufB c.rn c.ps = x
  generalize tv c.tm = y
  constructor
  · rintro ⟨h1, h2, h3, h4, h5, h6, h7, h8, h9, h10, h11, h12, h13⟩
    exact ⟨by omega, h12, h13⟩
  · rintro ⟨h1, h2, h3⟩
    exact ⟨by omega, by omega, by omega, by omega, by omega, by omega, by omega, by omega, by omega, by omega, by omega, h2, h3⟩
theorem neqEc (w : World) (s t : Int) (b : Bool) (h : (s == t) = !b) : (binOp .neq 32 (.int .i64 s) (.int .i64 t)).run Try.prog w = .ok (.bool b) w := by
  have e : (binOp .neq 32 (.int .i64 s) (.int .i64 t)).run Try.prog w = .ok (.bool (!(s == t))) w := by simp [go_sem, bne]
  rw [e, h, Bool.not_not]
theorem rcheck_at {n : Int} {L : List EP} {v : Value} {b : Bool} (hb : bufB n L = b) (w : World) (hl : L.length ≤ 1000000) (hd : ∀ x ∈ L, x.d.length ≤ 1000000) (hv : KPart.Sl w v L) : Calls Try.prog 17 #[.agg #[.int .i64 n, v]] w fun e w' => e = .returned (.int .i64 (if b then 0 else 1)) ∧ Below w.heap.size w w' := by
  have h := rcheck_any v n L w hl hd hv
  rwa [hb] at h
theorem tcheck_at {t : Tm} {b : Bool} (hb : tv t = b) (w : World) : Calls Try.prog 83 #[.agg #[.bool t.on, .int .i64 t.left, .int .i64 t.wait, .int .i64 t.tries]] w fun e w' => e = .returned (.int .i64 (if b then 0 else 1)) ∧ Below w.heap.size w w' := by
  refine (tcheck_any t w).mono fun e X h => ⟨h.1.trans (by rw [hb]), ?_⟩
  rw [← h.2]
  exact below_box w _
def tmz (t : Tm) : Bool := !t.on && (t.left == 0 && (t.wait == 0 && t.tries == 0))
theorem tmG (x y : Operand) (xs ys : Array Value) (w : World) : (eqGuard .eql 60 x y (.agg xs) (.agg ys)).run Try.prog w = .ok () w := run_eqGuard_agg w .eql _ x y xs ys (by kernel_rfl)
theorem tmE (t : Tm) (w : World) : (binOp .eql 60 (.agg #[.bool t.on, .int .i64 t.left, .int .i64 t.wait, .int .i64 t.tries]) (.agg #[.bool false, .int .i64 0, .int .i64 0, .int .i64 0])).run Try.prog w = .ok (.bool (tmz t)) w := by
  have e : (binOp .eql 60 (.agg #[.bool t.on, .int .i64 t.left, .int .i64 t.wait, .int .i64 t.tries]) (.agg #[.bool false, .int .i64 0, .int .i64 0, .int .i64 0])).run Try.prog w = .ok (.bool ((t.on == false) && ((t.left == 0) && ((t.wait == 0) && (t.tries == 0))))) w := by
    rw [run_eql_struct, show (10000 : Nat) = 9999 + 1 from rfl, run_equalIn_agg w 9999 _ _ _ (by kernel_rfl) (by kernel_rfl)]
    cases h1 : t.on <;> by_cases h2 : t.left = 0 <;> by_cases h3 : t.wait = 0 <;> by_cases h4 : t.tries = 0 <;> simp [go_sem, Program.fieldsOf, Try.underlying60, Op.eqFields, part, Try.underlying4, Try.underlying3, h2, h3, h4]
  rw [e]
  unfold tmz
  cases t.on <;> rfl
def st0B (c : EC) : Bool := (((c.out.length : Nat) : Int) == 0) && ((((c.ps.length : Nat) : Int) == 0) && tmz c.tm)
theorem st_0 {c : EC} (h : c.st = 0) : okSt c = st0B c := by
  unfold okSt st0B tmz
  rw [if_pos h, Bool.eq_iff_iff]
  simp only [Bool.and_eq_true, decide_eq_true_eq, Bool.not_eq_true', beq_iff_eq]
  constructor
  · rintro ⟨⟨h1, h2⟩, h3, h4, h5, h6⟩; exact ⟨by omega, by omega, h3, h4, h5, h6⟩
  · rintro ⟨h1, h2, h3, h4, h5, h6⟩; exact ⟨⟨by omega, by omega⟩, h3, h4, h5, h6⟩
theorem beqD (x y : Int) : (x == y) = decide (x = y) := by by_cases h : x = y <;> simp [h]
theorem st_1 {c : EC} (h : c.st = 1) : okSt c = (sentv c == 1) := by unfold okSt; rw [if_neg (by omega), if_pos h, beqD]
theorem st_25 {c : EC} (h : c.st = 2 ∨ c.st = 5) : okSt c = (decide (0 ≤ sentv c) && decide (sentv c ≤ ((c.out.length : Nat) : Int))) := by
  unfold okSt; rw [if_neg (by omega), if_neg (by omega), if_pos h, Bool.decide_and]
theorem st_367 {c : EC} (h : c.st = 3 ∨ c.st = 6 ∨ c.st = 7) : okSt c = (c.cl && (sentv c == (((c.out.length : Nat) : Int) + 1))) := by
  unfold okSt; rw [if_neg (by omega), if_neg (by omega), if_neg (by omega), if_pos h, beqD]
theorem st_48 {c : EC} (h0 : ¬ c.st = 0) (h1 : ¬ c.st = 1) (h2 : ¬ c.st = 2) (h5 : ¬ c.st = 5) (h3 : ¬ c.st = 3) (h6 : ¬ c.st = 6) (h7 : ¬ c.st = 7) : okSt c = (c.cl && ((sentv c == 0) && (((c.out.length : Nat) : Int) == 0))) := by
  unfold okSt
  rw [if_neg h0, if_neg h1, if_neg (by omega), if_neg (by omega), Bool.decide_and, beqD, beqD]
  congr 2
  rw [decide_eq_decide]; omega
set_option maxRecDepth 100000 in
set_option maxHeartbeats 4000000 in
theorem isN_any (xi : Int) (w : World) :
    Calls Try.prog 69 #[.int .i64 xi] w fun e w' => e = .returned (.bool (isN xi)) ∧ Below w.heap.size w w' := by
 have hb0 := Below.refl w.heap.size w
 refine fw_en 9 [(0, .int .i64 xi)] Try.func69 rfl Try.ntmps69 rfl ⟨rfl, trivial⟩ ?_
 refine fw_sq ?_
 refine fw_rg rfl ?_
 refine fw_pu rfl ?_
 refine fw_dt ?_
 refine fw_sq ?_
 refine fw_rg rfl ?_
 iterate 3 refine fw_pu rfl ?_
 rcases Bool.eq_false_or_eq_true ((decide (0 ≤ xi))) with hb_1 | hb_1
 ·skip
  refine fw_kn 5 rfl hb_1 ?_
  iterate 4 refine fw_pu rfl ?_
  refine fw_dt ?_
  refine fw_rt ?_
  refine ⟨fun a h => ?_⟩
  exact ow_ret1 rfl h.df (h.g 2 rfl) ⟨by unfold isN; rw [hb_1]; rfl, hb0⟩
 refine fw_kn 5 rfl hb_1 ?_
 iterate 4 refine fw_pu rfl ?_
 refine fw_dt ?_
 refine fw_rt ?_
 refine ⟨fun a h => ?_⟩
 exact ow_ret1 rfl h.df (h.g 2 rfl) ⟨by unfold isN; rw [hb_1]; rfl, hb0⟩
set_option maxRecDepth 100000 in
set_option maxHeartbeats 4000000 in
theorem isP_any (xi : Int) (w : World) :
    Calls Try.prog 87 #[.int .i64 xi] w fun e w' => e = .returned (.bool (isP xi)) ∧ Below w.heap.size w w' := by
 have hb0 := Below.refl w.heap.size w
 refine fw_en 9 [(0, .int .i64 xi)] Try.func87 rfl Try.ntmps87 rfl ⟨rfl, trivial⟩ ?_
 refine fw_sq ?_
 refine fw_rg rfl ?_
 refine fw_pu rfl ?_
 refine fw_dt ?_
 refine fw_sq ?_
 refine fw_rg rfl ?_
 iterate 3 refine fw_pu rfl ?_
 rcases Bool.eq_false_or_eq_true ((decide (0 ≤ xi))) with hb_1 | hb_1
 ·skip
  refine fw_kn 5 rfl hb_1 ?_
  iterate 4 refine fw_pu rfl ?_
  refine fw_dt ?_
  refine fw_rt ?_
  refine ⟨fun a h => ?_⟩
  exact ow_ret1 rfl h.df (h.g 2 rfl) ⟨by unfold isP; rw [hb_1]; rfl, hb0⟩
 refine fw_kn 5 rfl hb_1 ?_
 iterate 4 refine fw_pu rfl ?_
 refine fw_dt ?_
 refine fw_rt ?_
 refine ⟨fun a h => ?_⟩
 exact ow_ret1 rfl h.df (h.g 2 rfl) ⟨by unfold isP; rw [hb_1]; rfl, hb0⟩
set_option maxRecDepth 100000 in
set_option maxHeartbeats 4000000 in
theorem vseg_any (s : ES) (ad : Option Addr) (cd : Nat) (w : World) :
    Calls Try.prog 66 #[.agg #[.int .i64 s.sp, .int .i64 s.dp, .int .i64 s.sq, .int .i64 s.ak, .int .i64 s.fl, .int .i64 s.wn, .slice ad s.d.length cd]] w fun e w' => e = .returned (.bool (segB s)) ∧ Below w.heap.size w w' := by
 have hb0 := Below.refl w.heap.size w
 refine fw_en 42 [(0, .agg #[.int .i64 s.sp, .int .i64 s.dp, .int .i64 s.sq, .int .i64 s.ak, .int .i64 s.fl, .int .i64 s.wn, .slice ad s.d.length cd])] Try.func66 rfl Try.ntmps66 rfl ⟨rfl, trivial⟩ ?_
 refine fw_sq ?_
 refine fw_rg rfl ?_
 refine fw_bx rfl (cs := [.int .i64 s.sp, .int .i64 s.dp, .int .i64 s.sq, .int .i64 s.ak, .int .i64 s.fl, .int .i64 s.wn, .slice ad s.d.length cd]) rfl ?_
 intro q1 W2 g5 s3 r4
 have := Nat.le_trans hb0.size g5
 have b6 := hb0.trans (s3.mono hb0.size)
 refine fw_pu rfl ?_
 refine fw_dt ?_
 refine fw_sq ?_
 refine fw_rg rfl ?_
 refine fw_pu rfl ?_
 refine fw_ld r4 rfl rfl ?_
 refine fw_ca Try.func87 rfl rfl rfl (isP_any s.sp W2) ?_
 rintro _ V8 ⟨rfl, hb7⟩
 refine ⟨(.bool (isP s.sp)), rfl, ?_⟩
 have b9 := b6.trans (hb7.mono b6.size)
 have r10 := r4.below hb7
 refine fw_pu rfl ?_
 rcases Bool.eq_false_or_eq_true ((isP s.sp)) with hb_11 | hb_11
 ·skip
  refine fw_kn 6 rfl hb_11 ?_
  refine fw_pu rfl ?_
  refine fw_ld r10 rfl rfl ?_
  refine fw_ca Try.func87 rfl rfl rfl (isP_any s.dp V8) ?_
  rintro _ V13 ⟨rfl, hb12⟩
  refine ⟨(.bool (isP s.dp)), rfl, ?_⟩
  have b14 := b9.trans (hb12.mono b9.size)
  have r15 := r10.below hb12
  iterate 2 refine fw_pu rfl ?_
  rcases Bool.eq_false_or_eq_true ((isP s.dp)) with hb_16 | hb_16
  ·skip
   refine fw_kn 11 rfl hb_16 ?_
   refine fw_pu rfl ?_
   refine fw_ld r15 rfl rfl ?_
   refine fw_ca Try.func69 rfl rfl rfl (isN_any s.sq V13) ?_
   rintro _ V18 ⟨rfl, hb17⟩
   refine ⟨(.bool (isN s.sq)), rfl, ?_⟩
   have b19 := b14.trans (hb17.mono b14.size)
   have r20 := r15.below hb17
   iterate 2 refine fw_pu rfl ?_
   rcases Bool.eq_false_or_eq_true ((isN s.sq)) with hb_21 | hb_21
   ·skip
    refine fw_kn 16 rfl hb_21 ?_
    refine fw_pu rfl ?_
    refine fw_ld r20 rfl rfl ?_
    refine fw_ca Try.func69 rfl rfl rfl (isN_any s.ak V18) ?_
    rintro _ V23 ⟨rfl, hb22⟩
    refine ⟨(.bool (isN s.ak)), rfl, ?_⟩
    have b24 := b19.trans (hb22.mono b19.size)
    have r25 := r20.below hb22
    iterate 2 refine fw_pu rfl ?_
    rcases Bool.eq_false_or_eq_true ((isN s.ak)) with hb_26 | hb_26
    ·skip
     refine fw_kn 21 rfl hb_26 ?_
     refine fw_pu rfl ?_
     refine fw_ld r25 rfl rfl ?_
     iterate 3 refine fw_pu rfl ?_
     rcases Bool.eq_false_or_eq_true ((decide (0 ≤ s.fl))) with hb_27 | hb_27
     ·skip
      refine fw_kn 26 rfl hb_27 ?_
      refine fw_pu rfl ?_
      refine fw_ld r25 rfl rfl ?_
      iterate 3 refine fw_pu rfl ?_
      rcases Bool.eq_false_or_eq_true ((decide (s.fl ≤ 63))) with hb_28 | hb_28
      ·skip
       refine fw_kn 31 rfl hb_28 ?_
       refine fw_pu rfl ?_
       refine fw_ld r25 rfl rfl ?_
       refine fw_ca Try.func87 rfl rfl rfl (isP_any s.wn V23) ?_
       rintro _ V30 ⟨rfl, hb29⟩
       refine ⟨(.bool (isP s.wn)), rfl, ?_⟩
       have b31 := b24.trans (hb29.mono b24.size)
       have r32 := r25.below hb29
       iterate 2 refine fw_pu rfl ?_
       rcases Bool.eq_false_or_eq_true ((isP s.wn)) with hb_33 | hb_33
       ·skip
        refine fw_kn 36 rfl hb_33 ?_
        refine fw_pu rfl ?_
        refine fw_ld r32 rfl rfl ?_
        iterate 4 refine fw_pu rfl ?_
        refine fw_dt ?_
        refine fw_fg [(2, _)] ⟨rfl, trivial⟩ ?_
        refine fw_rt ?_
        refine ⟨fun a h => ?_⟩
        exact ow_ret1 rfl h.df (h.g 2 rfl) ⟨by unfold segB; rw [hb_11, hb_16, hb_21, hb_26, hb_27, hb_28, hb_33]; rfl, b31⟩
       refine fw_kn 36 rfl hb_33 ?_
       iterate 6 refine fw_pu rfl ?_
       refine fw_dt ?_
       refine fw_fg [(2, _)] ⟨rfl, trivial⟩ ?_
       refine fw_rt ?_
       refine ⟨fun a h => ?_⟩
       exact ow_ret1 rfl h.df (h.g 2 rfl) ⟨by unfold segB; rw [hb_11, hb_16, hb_21, hb_26, hb_27, hb_28, hb_33]; rfl, b31⟩
      refine fw_kn 31 rfl hb_28 ?_
      iterate 11 refine fw_pu rfl ?_
      refine fw_dt ?_
      refine fw_fg [(2, _)] ⟨rfl, trivial⟩ ?_
      refine fw_rt ?_
      refine ⟨fun a h => ?_⟩
      exact ow_ret1 rfl h.df (h.g 2 rfl) ⟨by unfold segB; rw [hb_11, hb_16, hb_21, hb_26, hb_27, hb_28]; rfl, b24⟩
     refine fw_kn 26 rfl hb_27 ?_
     iterate 16 refine fw_pu rfl ?_
     refine fw_dt ?_
     refine fw_fg [(2, _)] ⟨rfl, trivial⟩ ?_
     refine fw_rt ?_
     refine ⟨fun a h => ?_⟩
     exact ow_ret1 rfl h.df (h.g 2 rfl) ⟨by unfold segB; rw [hb_11, hb_16, hb_21, hb_26, hb_27]; rfl, b24⟩
    refine fw_kn 21 rfl hb_26 ?_
    iterate 21 refine fw_pu rfl ?_
    refine fw_dt ?_
    refine fw_fg [(2, _)] ⟨rfl, trivial⟩ ?_
    refine fw_rt ?_
    refine ⟨fun a h => ?_⟩
    exact ow_ret1 rfl h.df (h.g 2 rfl) ⟨by unfold segB; rw [hb_11, hb_16, hb_21, hb_26]; rfl, b24⟩
   refine fw_kn 16 rfl hb_21 ?_
   iterate 26 refine fw_pu rfl ?_
   refine fw_dt ?_
   refine fw_fg [(2, _)] ⟨rfl, trivial⟩ ?_
   refine fw_rt ?_
   refine ⟨fun a h => ?_⟩
   exact ow_ret1 rfl h.df (h.g 2 rfl) ⟨by unfold segB; rw [hb_11, hb_16, hb_21]; rfl, b19⟩
  refine fw_kn 11 rfl hb_16 ?_
  iterate 31 refine fw_pu rfl ?_
  refine fw_dt ?_
  refine fw_fg [(2, _)] ⟨rfl, trivial⟩ ?_
  refine fw_rt ?_
  refine ⟨fun a h => ?_⟩
  exact ow_ret1 rfl h.df (h.g 2 rfl) ⟨by unfold segB; rw [hb_11, hb_16]; rfl, b14⟩
 refine fw_kn 6 rfl hb_11 ?_
 iterate 36 refine fw_pu rfl ?_
 refine fw_dt ?_
 refine fw_fg [(2, _)] ⟨rfl, trivial⟩ ?_
 refine fw_rt ?_
 refine ⟨fun a h => ?_⟩
 exact ow_ret1 rfl h.df (h.g 2 rfl) ⟨by unfold segB; rw [hb_11]; rfl, b9⟩
end Go.Proofs.Ytjgbiffgmafhmaa
