/-
  The law TcpShut.
-/
import Derived.Test.YtjgbiffgmafhmaaLtSB
namespace Go.Proofs.Ytjgbiffgmafhmaa
open Go.RowKit Go.Lib
def hello : List UInt8 := [104, 101, 108, 108, 111]
def cS1 (ls : Int) : EC := ⟨1, 2, 3, 4, 2, addv ls 1, addv ls 1, 0, [], 10, [], false, tm0⟩
def s1 (ls : Int) : ES := ⟨3, 4, 10, addv ls 1, 16, 0, []⟩
def cS2 (ls : Int) (m : Tm) : EC := ⟨1, 2, 3, 4, 2, addv ls 1, addv ls 1, 0, hello, 10, [], false, m⟩
def cS3 (ls : Int) : EC := ⟨1, 2, 3, 4, 2, addv ls 1, addv ls 2, 0, hello, 10, [], false, ⟨true, 6, 6, 1⟩⟩
def sH (ls : Int) : ES := ⟨4, 3, addv ls 1, 10, 24, 2048, [104]⟩
def s2 (ls : Int) : ES := ⟨3, 4, 10, addv ls 2, 16, 100, []⟩
def cS4 (ls : Int) : EC := ⟨1, 2, 3, 4, 2, addv ls 2, addv ls 6, 100, [101, 108, 108, 111], 10, [], false, tmS 3⟩
def sE (ls : Int) : ES := ⟨4, 3, addv ls 2, 10, 24, 2048, [101, 108, 108, 111]⟩
theorem dv (ls a b : Int) (h : -2147483648 ≤ a - b ∧ a - b < 2147483648) : diffv (addv ls a) (addv ls b) = a - b := by unfold diffv addv; omega
theorem avav (ls a b : Int) : addv (addv ls a) b = addv ls (a + b) := by unfold addv; omega
theorem ackC_1 (ls : Int) : ackC (cTm ls (tmS 3)) (s1 ls) = { cS1 ls with win := 0 } ∧ ackL (cTm ls (tmS 3)) [] (s1 ls) = [] ∧ ackB (cTm ls (tmS 3)) (s1 ls) = true := by
  have hb : (addv ls 1 == addv ls 1) = true := beq_self_eq_true _
  refine ⟨?_, ?_, ?_⟩
  · show (if (addv ls 1 == addv ls 1) = true then _ else _) = _
    rw [hb]; rfl
  · show (if (addv ls 1 == addv ls 1) = true then _ else _) = _
    rw [hb]; rfl
  · exact hb
theorem pump_1 (ls : Int) : pumpS (cS1 ls) [] = (cS1 ls, []) := by
  have hs : sentv (cS1 ls) = 0 := (dv ls 1 1 (by decide)).trans (by decide)
  have hp : pumpN (cS1 ls) ≤ 0 := by unfold pumpN; rw [hs]; exact of_decide_eq_true rfl
  have e : pumpS (cS1 ls) [] = (let q := pumpF (pumpL 1 (cS1 ls) []).1 (pumpL 1 (cS1 ls) []).2; (pumpT q.1, q.2)) := rfl
  rw [e, pumpL_stop hp]
  show (pumpT (cS1 ls), ([] : List ES)) = _
  unfold pumpT
  rw [hs]
  rfl
theorem take_1 (ls : Int) : takeS (cTm ls (tmS 3)) (s1 ls) = (cS1 ls, [], []) := by
  obtain ⟨h1, h2, h3⟩ := ackC_1 ls
  rw [take_ack (of_decide_eq_true rfl) (show accS _ _ = true from rfl) rfl h3 rfl (by rw [h1]; rfl) (by rw [h1]; exact ⟨of_decide_eq_true rfl, of_decide_eq_true rfl⟩), h1, h2]
  show (lastT (pumpS (cS1 ls) []).1, (pumpS (cS1 ls) []).2, ([] : List UInt8)) = _
  rw [pump_1]
  show (lastT (cS1 ls), _, _) = _
  have hs : sentv (cS1 ls) = 0 := (dv ls 1 1 (by decide)).trans (by decide)
  rw [lastT_2 (by rw [hs]; rfl)]
theorem send_1 (ls : Int) : pumpS { cS1 ls with out := (cS1 ls).out ++ hello } [] = (cS2 ls (tmS 3), []) := by
  have hs : ∀ m, sentv (cS2 ls m) = 0 := fun m => (dv ls 1 1 (by decide)).trans (by decide)
  have hp : pumpN (cS2 ls tm0) ≤ 0 := by unfold pumpN; rw [hs]; exact of_decide_eq_true rfl
  have e : pumpS { cS1 ls with out := (cS1 ls).out ++ hello } [] = (let q := pumpF (pumpL 6 (cS2 ls tm0) []).1 (pumpL 6 (cS2 ls tm0) []).2; (pumpT q.1, q.2)) := rfl
  rw [e, pumpL_stop hp]
  show (pumpT (cS2 ls tm0), ([] : List ES)) = _
  unfold pumpT
  rw [hs]
  rfl
theorem tick_1 (ls : Int) : tickS (cS2 ls ⟨true, 3, 3, 0⟩) = (cS2 ls ⟨true, 2, 3, 0⟩, []) ∧ tickS (cS2 ls ⟨true, 2, 3, 0⟩) = (cS2 ls ⟨true, 1, 3, 0⟩, []) ∧ tickS (cS2 ls ⟨true, 1, 3, 0⟩) = (cS3 ls, [sH ls]) := by
  refine ⟨rfl, rfl, ?_⟩
  have hs : sentv (cS2 ls ⟨true, 0, 3, 0⟩) = 0 := (dv ls 1 1 (by decide)).trans (by decide)
  have e : tickS (cS2 ls ⟨true, 1, 3, 0⟩) = expireS (cS2 ls ⟨true, 0, 3, 0⟩) [] := rfl
  rw [e]
  unfold expireS
  rw [if_neg (of_decide_eq_true rfl), if_neg (of_decide_eq_true rfl), if_neg (of_decide_eq_true rfl), hs, if_neg (by decide), if_pos (of_decide_eq_true rfl)]
  have e2 : addv (cS2 ls ⟨true, 0, 3, 0⟩).nxt 1 = addv ls 2 := avav ls 1 1
  rw [e2]
  rfl
theorem ackC_2 (ls : Int) : ackC (cS3 ls) (s2 ls) = { cS4 ls with nxt := addv ls 2, win := 0, tm := tm0 } ∧ ackL (cS3 ls) [] (s2 ls) = [] ∧ ackB (cS3 ls) (s2 ls) = true := by
  have h1 : diffv (addv ls 2) (addv ls 2) = 0 := (dv ls 2 2 (by decide)).trans (by decide)
  have h2 : diffv (addv ls 2) (addv ls 1) = 1 := (dv ls 2 1 (by decide)).trans (by decide)
  refine ⟨?_, ?_, ?_⟩
  · have e : ackC (cS3 ls) (s2 ls) = if (0 : Int) < diffv (addv ls 2) (addv ls 2) then cS3 ls else ackF (ackU (cS3 ls) (s2 ls)) := rfl
    have e2 : ackU (cS3 ls) (s2 ls) = if 0 < diffv (addv ls 2) (addv ls 1) then { cS3 ls with out := (cS3 ls).out.drop (min (diffv (addv ls 2) (addv ls 1)) (cS3 ls).out.length).toNat, una := addv ls 2, tm := tm0 } else cS3 ls := rfl
    rw [e, h1, if_neg (by decide), e2, h2, if_pos (by decide)]
    show ackF ⟨1, 2, 3, 4, 2, addv ls 2, addv ls 2, 0, [101, 108, 108, 111], 10, [], false, tm0⟩ = _
    unfold ackF
    split <;> rfl
  · have e : ackL (cS3 ls) [] (s2 ls) = if (0 : Int) < diffv (addv ls 2) (addv ls 2) then ackN (cS3 ls) [] else [] := rfl
    rw [e, h1]; rfl
  · have e : ackB (cS3 ls) (s2 ls) = !decide (0 < diffv (addv ls 2) (addv ls 2)) := rfl
    rw [e, h1]; rfl
theorem pump_2 (ls : Int) : pumpS { cS4 ls with nxt := addv ls 2, tm := tm0 } [] = (cS4 ls, [sE ls]) := by
  have hs1 : sentv { cS4 ls with nxt := addv ls 2, tm := tm0 } = 0 := (dv ls 2 2 (by decide)).trans (by decide)
  have hs2 : sentv { cS4 ls with tm := tm0 } = 4 := (dv ls 6 2 (by decide)).trans (by decide)
  have hp1 : pumpN { cS4 ls with nxt := addv ls 2, tm := tm0 } = 4 := by unfold pumpN; rw [hs1]; rfl
  have hp2 : pumpN { cS4 ls with tm := tm0 } ≤ 0 := by unfold pumpN; rw [hs2]; exact of_decide_eq_true rfl
  have e : pumpS { cS4 ls with nxt := addv ls 2, tm := tm0 } [] = (let q := pumpF (pumpL 5 { cS4 ls with nxt := addv ls 2, tm := tm0 } []).1 (pumpL 5 { cS4 ls with nxt := addv ls 2, tm := tm0 } []).2; (pumpT q.1, q.2)) := rfl
  have e2 : pumpL 5 { cS4 ls with nxt := addv ls 2, tm := tm0 } [] = ({ cS4 ls with tm := tm0 }, [sE ls]) := by
    rw [pumpL_go (by rw [hp1]; decide), hp1, hs1]
    show pumpL 4 { cS4 ls with nxt := addv (addv ls 2) 4, tm := tm0 } [sE ls] = _
    rw [avav]
    exact pumpL_stop hp2
  rw [e, e2]
  show (pumpT { cS4 ls with tm := tm0 }, _) = _
  unfold pumpT
  rw [hs2]
  rfl
theorem take_2 (ls : Int) : takeS (cS3 ls) (s2 ls) = (cS4 ls, [sE ls], []) := by
  obtain ⟨h1, h2, h3⟩ := ackC_2 ls
  rw [take_ack (of_decide_eq_true rfl) (show accS _ _ = true from rfl) rfl h3 rfl (by rw [h1]; rfl) (by rw [h1]; exact ⟨of_decide_eq_true rfl, of_decide_eq_true rfl⟩), h1, h2]
  show (lastT (pumpS { cS4 ls with nxt := addv ls 2, tm := tm0 } []).1, (pumpS { cS4 ls with nxt := addv ls 2, tm := tm0 } []).2, ([] : List UInt8)) = _
  rw [pump_2]
  rw [lastT_1 rfl]
theorem okS1 (ls : Int) : okS (s1 ls) = true ∧ okS (s2 ls) = true := by
  have h1 := addv_bd ls 1
  have h2 := addv_bd ls 2
  refine ⟨decide_eq_true ?_, decide_eq_true ?_⟩
  · show 0 ≤ (3 : Int) ∧ (3 : Int) < 65536 ∧ 0 ≤ (4 : Int) ∧ (4 : Int) < 65536 ∧ 0 ≤ (10 : Int) ∧ (10 : Int) < 4294967296 ∧ 0 ≤ addv ls 1 ∧ addv ls 1 < 4294967296 ∧ 0 ≤ (16 : Int) ∧ (16 : Int) ≤ 63 ∧ 0 ≤ (0 : Int) ∧ (0 : Int) < 65536 ∧ 0 ≤ 1460
    omega
  · show 0 ≤ (3 : Int) ∧ (3 : Int) < 65536 ∧ 0 ≤ (4 : Int) ∧ (4 : Int) < 65536 ∧ 0 ≤ (10 : Int) ∧ (10 : Int) < 4294967296 ∧ 0 ≤ addv ls 2 ∧ addv ls 2 < 4294967296 ∧ 0 ≤ (16 : Int) ∧ (16 : Int) ≤ 63 ∧ 0 ≤ (100 : Int) ∧ (100 : Int) < 65536 ∧ 0 ≤ 1460
    omega
/-- A connection that is up, of small numbers. -/
theorem okU {ls a b : Int} {wn rn : Int} {out : List UInt8} {m : Tm} (h : 0 ≤ b - a ∧ b - a ≤ out.length) (ho : out.length ≤ 8192) (hw : 0 ≤ wn ∧ wn < 65536) (hrn : 0 ≤ rn ∧ rn < 4294967296) (hm : tv m = true) : okC ⟨1, 2, 3, 4, 2, addv ls a, addv ls b, wn, out, rn, [], false, m⟩ = true := by
  have h1 := addv_bd ls a
  have h2 := addv_bd ls b
  have e : okC ⟨1, 2, 3, 4, 2, addv ls a, addv ls b, wn, out, rn, [], false, m⟩ = (decide (0 ≤ (1 : Int) ∧ (1 : Int) ≤ 1099511627776 ∧ 0 ≤ (2 : Int) ∧ (2 : Int) < 4294967296 ∧ 0 ≤ (3 : Int) ∧ (3 : Int) < 65536 ∧ 0 ≤ (4 : Int) ∧ (4 : Int) < 65536 ∧ 0 ≤ (2 : Int) ∧ (2 : Int) ≤ 8 ∧ 0 ≤ addv ls a ∧ addv ls a < 4294967296 ∧ 0 ≤ addv ls b ∧ addv ls b < 4294967296 ∧ 0 ≤ wn ∧ wn < 65536 ∧ out.length ≤ 8192) && (bufB rn [] && tv m) && decide (0 ≤ diffv (addv ls b) (addv ls a) ∧ diffv (addv ls b) (addv ls a) ≤ out.length)) := rfl
  rw [e, hm, bufB_nil hrn.1 hrn.2, dv ls b a (by omega), decide_eq_true (show 0 ≤ b - a ∧ b - a ≤ (out.length : Int) from h), Bool.and_true, Bool.and_true, Bool.and_true]
  exact decide_eq_true (by omega)
theorem mayTk {c : EC} {s : ES} (h1 : okC c = true) (h2 : okS s = true) (h3 : (s.sp == c.pp && s.dp == c.po) = true) : mayTake c s = true := by unfold mayTake; rw [h1, h2, h3]; rfl
def cLs (ls : Int) : Nat → EC
  | 0 => cS2 ls ⟨true, 3, 3, 0⟩
  | 1 => cS2 ls ⟨true, 2, 3, 0⟩
  | 2 => cS2 ls ⟨true, 1, 3, 0⟩
  | _ => cS3 ls
def lLs (ls : Int) : Nat → List ES
  | 3 => [sH ls]
  | _ => []
theorem tick_L (ls : Int) {t : Nat} (h : t < 3) : tickS (cLs ls t) = (cLs ls (t + 1), lLs ls (t + 1)) ∧ lLs ls t = [] := by
  obtain ⟨h1, h2, h3⟩ := tick_1 ls
  match t, h with
  | 0, _ => exact ⟨h1, rfl⟩
  | 1, _ => exact ⟨h2, rfl⟩
  | 2, _ => exact ⟨h3, rfl⟩
theorem ok_L (ls : Int) {t : Nat} (h : t ≤ 3) : okC (cLs ls t) = true ∧ (cLs ls t).ps = [] := by
  match t, h with
  | 0, _ => exact ⟨okU (by decide) (by decide) (by decide) (by decide) (by decide), rfl⟩
  | 1, _ => exact ⟨okU (by decide) (by decide) (by decide) (by decide) (by decide), rfl⟩
  | 2, _ => exact ⟨okU (by decide) (by decide) (by decide) (by decide) (by decide), rfl⟩
  | 3, _ => exact ⟨okU (by decide) (by decide) (by decide) (by decide) (by decide), rfl⟩
theorem take_L (ls : Int) {t : Nat} (h : decide (t = 3) = true) : takeS (cLs ls t) (s2 ls) = (cS4 ls, [sE ls], []) ∧ mayTake (cLs ls t) (s2 ls) = true ∧ lLs ls t = [sH ls] := by
  have h := of_decide_eq_true h
  subst h
  exact ⟨take_2 ls, mayTk (ok_L ls (Nat.le_refl _)).1 (okS1 ls).2 rfl, rfl⟩
set_option maxRecDepth 100000 in
set_option maxHeartbeats 4000000 in
theorem tcpShut_walk (w : World) (cs : List Value) (h : RdZ Try.prog w 82 cs) :
    Calls Try.prog 11 #[.agg cs.toArray] w fun e w' => e = .returned (.bool true) ∧ Below w.heap.size w w' := by
  obtain ⟨A, B, aA, aB, aL, aW, cA, cB, cL, cW, nL, nW, sz, isv, rfl, hA, hB⟩ := talk_of w cs h
  have hb0 := Below.refl w.heap.size w
  refine fw_en 146 [(0, .agg #[.slice aA A.length cA, .slice aB B.length cB, .int .i64 sz, .int .i64 isv, .slice aL nL cL, .slice aW nW cW])] Try.func11 rfl Try.ntmps11 rfl ⟨rfl, trivial⟩ ?_
  refine fw_sq ?_
  refine fw_rg rfl ?_
  refine fw_bx rfl (cs := [.slice aA A.length cA, .slice aB B.length cB, .int .i64 sz, .int .i64 isv, .slice aL nL cL, .slice aW nW cW]) rfl ?_
  intro q1 W2 g5 s3 r4
  have := Nat.le_trans hb0.size g5
  have b6 := hb0.trans (s3.mono hb0.size)
  refine fw_pu rfl ?_
  refine fw_dt ?_
  refine fw_sq ?_
  refine fw_rg rfl ?_
  refine fw_pu rfl ?_
  refine fw_ld r4 rfl rfl ?_
  refine fw_ex 16 ((.int .u32 (low32 isv))) rfl rfl rfl (fun a h => (run_convOp (h.ev rfl) (conv32 _ _))) ?_
  refine fw_ex 17 (.int .i64 (low32 isv)) rfl rfl rfl (fun a h => (run_convOp (h.ev rfl) (conv64 _ _))) ?_
  refine fw_pu rfl ?_
  refine fw_dt ?_
  refine fw_sq ?_
  refine fw_rg rfl ?_
  refine fw_pu rfl ?_
  refine fw_ex 20 (.agg #[.int .i64 3, .int .i64 4, .int .i64 9, .int .i64 0, .int .i64 2, .int .i64 0, .slice none 0 0]) rfl rfl rfl (fun a h => (run_buildOp (bp4 (h.ev rfl) (h.ev rfl) (h.ev rfl) (h.ev rfl)) (by first | kernel_rfl | rfl))) ?_
  have hls := low32_bd isv
  have := r4.2.2
  obtain ⟨Bz8, hBz8⟩ : ∃ x, x = W2.heap.size := ⟨_, rfl⟩
  have hwB8 : w.heap.size ≤ Bz8 := by rw [hBz8]; exact b6.size
  refine fw_ca Try.func41 rfl rfl rfl (pOpen 1 2 (low32 isv) sT none 0 W2 (mayT hls) (openT (low32 isv))) ?_
  rintro _ V8 ⟨ao8, co8, ap8, cp8, al8, cl8, rfl, hM8, hb7⟩
  refine ⟨_, rfl, ?_⟩
  have hT8 := Tch.refl (fun k => k < Bz8) V8
  rw [← hBz8] at hM8
  have hz8 := mine_size hM8
  have b9 := b6.trans (hb7.mono b6.size)
  have r10 := r4.below hb7
  iterate 4 refine fw_pu rfl ?_
  refine fw_al (t := 62) (u := fun q => .pointer (some ⟨q, 0, none⟩)) 4 [.int .i64 0, .int .i64 0, .int .i64 0, .int .i64 0, .int .i64 0, .int .i64 0, .int .i64 0, .int .i64 0, .slice none 0 0, .int .i64 0, .slice none 0 0, .bool false, .bool false, .int .i64 0, .int .i64 0, .int .i64 0] rfl rfl rfl (fun a h => (run_allocOp (by simp [go_sem, Instr.alloc]))) ?_
  intro q11 W12 g15 s13 r14
  have := Nat.le_trans b9.size g15
  have := r10.lt g15
  have := Nat.le_trans hT8.size g15
  have b16 := b9.trans (s13.mono b9.size)
  have r17 := r10.below s13
  have f18 := (Tch.grow hT8 s13)
  refine fw_st r14 rfl rfl ?_
  intro W19 s20 r21
  have b22 := below_chg b16 s20 (by omega) b16.size
  have r23 := r17.chg s20 (by omega)
  have f24 := (Tch.chg f18 s20 (.inr (by omega)))
  iterate 2 refine fw_pu rfl ?_
  refine fw_dt ?_
  refine fw_sq ?_
  refine fw_hr (fun X => Below w.heap.size w X ∧ RowAt X q1 [.slice aA A.length cA, .slice aB B.length cB, .int .i64 sz, .int .i64 isv, .slice aL nL cL, .slice aW nW cW] ∧ Tch (fun k => k < Bz8) V8 X) (by kernel_rfl) 14 rfl ?_
  intro W25 s26
  have b27 := b22.trans (s26.mono b22.size)
  have r28 := r23.below s26
  have r29 := r21.below s26
  have f30 := (Tch.grow f24 s26)
  refine ⟨⟨b27, r28, f30⟩, ?_⟩
  refine fw_tk 1 rfl rfl (by kernel_rfl) (fun _ _ _ _ _ h => h) ?_
  refine fw_lqm 0 2 3 29 (.agg #[.int .i64 3, .int .i64 4, .int .i64 10, .int .i64 (addv (low32 isv) 1), .int .i64 16, .int .i64 0, .slice none 0 0]) (by kernel_rfl) (by kernel_rfl) (by kernel_rfl) (by kernel_rfl) (by kernel_rfl) ⟨rfl, rfl, rfl⟩ r29 Try.func18 rfl rfl rfl rfl rfl rfl rfl rfl rfl rfl ⟨rfl, rfl⟩ rfl rfl rfl rfl (fun _ _ _ _ _ h => h) (fun a h W => (run_buildOp (bp5 (h.ev rfl) (h.ev rfl) (h.ev rfl) (h.ev rfl) (h.ev rfl)) (by first | kernel_rfl | rfl))) (fun a h => (run_buildOp (bp5 (h.ev rfl) (h.ev rfl) (h.ev rfl) (h.ev rfl) (h.ev rfl)) (by first | kernel_rfl | rfl))) ((rAdd_q (low32 isv) 1 W25)) ?_
  refine fw_o1 4 (by kernel_rfl) ?_
  have := r28.2.2
  have := r29.2.2
  obtain ⟨Bz32, hBz32⟩ : ∃ x, x = W25.heap.size := ⟨_, rfl⟩
  have hwB32 : w.heap.size ≤ Bz32 := by rw [hBz32]; exact b27.size
  refine fw_oc rfl Try.func36 rfl rfl rfl (pTake (cTm (low32 isv) (tmS 3)) ao8 ap8 co8 cp8 W25 (mine_reads hM8 f30).1 (mine_reads hM8 f30).2.1 (Nat.zero_le _) (fun x hx => (nomatch hx)) (s1 (low32 isv)) none 0 (mayTk (okT hls rfl) (okS1 (low32 isv)).1 rfl) (Sl_nil _) (take_1 (low32 isv))) ?_
  rintro _ V32 ⟨ao32, co32, ap32, cp32, al32, cl32, vt32, rfl, hM32, hb31⟩
  refine ⟨_, rfl, ?_⟩
  have hT32 := Tch.refl (fun k => k < Bz32) V32
  rw [← hBz32] at hM32
  have hz32 := mine_size hM32
  have b33 := b27.trans (hb31.mono b27.size)
  have r34 := r28.below hb31
  have r35 := r29.below hb31
  have f36 := (Tch.grow f30 hb31)
  refine ⟨⟨b33, r34, f36⟩, ?_⟩
  refine fw_tk 5 rfl rfl (by kernel_rfl) (fun _ _ _ _ _ h => h) ?_
  refine fw_tk 6 rfl rfl (by kernel_rfl) (fun _ _ _ _ _ h => h) ?_
  refine fw_tk 7 rfl rfl (by kernel_rfl) (fun _ _ _ _ _ h => h) ?_
  refine fw_tk 8 rfl rfl (by kernel_rfl) (fun _ _ _ _ _ h => h) ?_
  refine fw_tk 9 rfl rfl (by kernel_rfl) (fun _ _ _ _ _ h => h) ?_
  refine fw_o1 10 (by kernel_rfl) ?_
  refine fw_os rfl r35 rfl rfl ?_
  intro W37 s38 r39
  have b40 := below_chg b33 s38 (by omega) b33.size
  have r41 := r34.chg s38 (by omega)
  have f42 := (Tch.chg f36 s38 (.inr (by omega)))
  have f43 := (Tch.chg hT32 s38 (.inl (by omega)))
  refine ⟨⟨b40, r41, f42⟩, ?_⟩
  refine fw_tk 11 rfl rfl (by kernel_rfl) (fun _ _ _ _ _ h => h) ?_
  refine fw_tk 12 rfl rfl (by kernel_rfl) (fun _ _ _ _ _ h => h) ?_
  refine fw_tk 13 rfl rfl (by kernel_rfl) (fun _ _ _ _ _ h => h) ?_
  refine fw_ht (by kernel_rfl) ?_
  refine fw_sq ?_
  refine fw_rg rfl ?_
  refine fw_ld r39 rfl rfl ?_
  refine fw_bs 37 38 hello (by decide) rfl rfl rfl rfl rfl rfl rfl (fun a => by simp [execOp, go_sem, Instr.buildSlice, hello, B8]) ?_
  intro q44 W45 g46 s47 hS48
  have := Nat.le_trans b40.size g46
  have := r41.lt g46
  have := r39.lt g46
  have := Nat.le_trans f42.size g46
  have := Nat.le_trans f43.size g46
  have b49 := b40.trans (s47.mono b40.size)
  have r50 := r41.below s47
  have r51 := r39.below s47
  have f52 := (Tch.grow f42 s47)
  have f53 := (Tch.grow f43 s47)
  have := r50.2.2
  have := r51.2.2
  obtain ⟨Bz55, hBz55⟩ : ∃ x, x = W45.heap.size := ⟨_, rfl⟩
  have hwB55 : w.heap.size ≤ Bz55 := by rw [hBz55]; exact b49.size
  refine fw_ca Try.func33 rfl rfl rfl (pSend0 (cS1 (low32 isv)) ao32 ap32 co32 cp32 W45 (okU (by decide) (by decide) (by decide) (by decide) rfl) (mine_reads hM32 f53).1 (mine_reads hM32 f53).2.1 (Nat.zero_le _) (fun x hx => (nomatch hx)) hello _ _ (by decide) (Sl.below hS48 (Below.refl _ _)) rfl (send_1 (low32 isv))) ?_
  rintro _ V55 ⟨ao55, co55, ap55, cp55, al55, cl55, rfl, hM55, hb54⟩
  refine ⟨_, rfl, ?_⟩
  have hT55 := Tch.refl (fun k => k < Bz55) V55
  rw [← hBz55] at hM55
  have hz55 := mine_size hM55
  have b56 := b49.trans (hb54.mono b49.size)
  have r57 := r50.below hb54
  have r58 := r51.below hb54
  have f59 := (Tch.grow f52 hb54)
  have f60 := (Tch.grow f53 hb54)
  iterate 4 refine fw_pu rfl ?_
  refine fw_st r58 rfl rfl ?_
  intro W61 s62 r63
  have b64 := below_chg b56 s62 (by omega) b56.size
  have r65 := r57.chg s62 (by omega)
  have f66 := (Tch.chg f59 s62 (.inr (by omega)))
  have f67 := (Tch.chg f60 s62 (.inl (by omega)))
  have f68 := (Tch.chg hT55 s62 (.inl (by omega)))
  iterate 2 refine fw_pu rfl ?_
  refine fw_dt ?_
  refine fw_sq ?_
  refine fw_sq ?_
  refine fw_rg rfl ?_
  refine fw_pu rfl ?_
  refine fw_ca Try.func38 rfl rfl rfl ((num16_any 0 W61)) ?_
  rintro _ _ ⟨rfl, rfl⟩
  refine ⟨(.int .i64 0), rfl, ?_⟩
  iterate 3 refine fw_pu rfl ?_
  refine fw_ca Try.func38 rfl rfl rfl ((num16_any 0 W61)) ?_
  rintro _ _ ⟨rfl, rfl⟩
  refine ⟨(.int .i64 0), rfl, ?_⟩
  iterate 4 refine fw_pu rfl ?_
  refine fw_ca Try.func38 rfl rfl rfl ((num16_any 0 W61)) ?_
  rintro _ _ ⟨rfl, rfl⟩
  refine ⟨(.int .i64 0), rfl, ?_⟩
  iterate 8 refine fw_pu rfl ?_
  refine fw_kn 61 rfl (not_of rfl) ?_
  refine fw_pu rfl ?_
  refine fw_ld r63 rfl rfl ?_
  iterate 2 refine fw_pu rfl ?_
  refine fw_dt ?_
  refine fw_fg [(2, _), (3, _), (4, _), (65, _)] ⟨rfl, rfl, rfl, rfl, trivial⟩ ?_
  refine fw_cF rfl (not_of rfl) ?_
  refine fw_sk ?_
  refine fw_th ?_
  refine fw_sq ?_
  refine fw_rg rfl ?_
  refine fw_pu rfl ?_
  refine fw_dt ?_
  refine fw_sq ?_
  refine fw_sq ?_
  refine fw_rg rfl ?_
  refine fw_pu rfl ?_
  refine fw_dt ?_
  refine fw_bk ?_
  refine fw_lp (fun N K W => ∃ (t : Nat) (Bzt : Nat) (Vt : World) (aot : Option Addr) (apt : Option Addr) (alt : Option Addr) (cot : Nat) (cpt : Nat) (clt : Nat) (axt : Option Addr) (cxt : Nat), N = 3 - t ∧ t ≤ 3 ∧ Mine Bzt (cLs (low32 isv) t) (lLs (low32 isv) t) [] aot cot apt cpt alt clt (.slice none 0 0) Vt ∧ w.heap.size ≤ Bzt ∧ q11 < Bzt ∧ (t = 3 → axt = alt ∧ cxt = clt) ∧ K = [(3, .int .i64 (low32 isv)), (4, .pointer (some ⟨q11, 0, none⟩)), (12, .slice axt (lLs (low32 isv) t).length cxt), (13, .int .i64 ((t : Nat) : Int))] ∧ Below w.heap.size w W ∧ RowAt W q11 [.int .i64 (cLs (low32 isv) t).link, .int .i64 (cLs (low32 isv) t).ip, .int .i64 (cLs (low32 isv) t).pp, .int .i64 (cLs (low32 isv) t).po, .int .i64 (cLs (low32 isv) t).st, .int .i64 (cLs (low32 isv) t).una, .int .i64 (cLs (low32 isv) t).nxt, .int .i64 (cLs (low32 isv) t).win, .slice aot (cLs (low32 isv) t).out.length cot, .int .i64 (cLs (low32 isv) t).rn, .slice apt (cLs (low32 isv) t).ps.length cpt, .bool (cLs (low32 isv) t).cl, .bool (cLs (low32 isv) t).tm.on, .int .i64 (cLs (low32 isv) t).tm.left, .int .i64 (cLs (low32 isv) t).tm.wait, .int .i64 (cLs (low32 isv) t).tm.tries] ∧ Tch (fun k => k < Bzt) Vt W) _ _ ⟨0, Bz55, V55, ao55, ap55, al55, co55, cp55, cl55, none, 0, rfl, (by decide), hM55, hwB55, (by omega), (fun h => absurd h (by decide)), rfl, b64, r63, f68⟩ ⟨rfl, rfl, (by first | rfl | (simp only [Look, cond, Nat.beq]; first | rfl | (congr 2; first | rfl | omega | (push_cast; omega)) | (simp; try omega))), (by first | rfl | (simp only [Look, cond, Nat.beq]; first | rfl | (congr 2; first | rfl | omega | (push_cast; omega)) | (simp; try omega))), trivial⟩ ?_
  rintro N _ W69 ⟨t, Bzt, Vt, aot, apt, alt, cot, cpt, clt, axt, cxt, rfl, ht, hMt, hBt, hqt, hax, rfl, bW69, rW69_0, gW69_0⟩
  intro K71 hK71
  have hzt := mine_size hMt
  refine fw_sq ?_
  refine fw_sq ?_
  rcases Bool.eq_false_or_eq_true ((decide (t = 3))) with hb_72 | hb_72
  · skip
    refine fw_rg rfl ?_
    iterate 3 refine fw_pu rfl ?_
    refine fw_kn 68 rfl (decide_eq_true (by omega)) ?_
    iterate 4 refine fw_pu rfl ?_
    refine fw_dt ?_
    refine fw_cF rfl (by rw [(take_L (low32 isv) hb_72).2.2]; rfl) ?_
    refine fw_xt ?_
    refine fw_te ?_
    refine fw_te ?_
    refine fw_be ?_
    refine fw_th ?_
    refine fw_sq ?_
    refine fw_sq ?_
    obtain ⟨rfl, rfl⟩ := hax (of_decide_eq_true hb_72)
    have hl3 := (take_L (low32 isv) hb_72).2.2
    rw [hl3] at hMt
    obtain ⟨gt, adt, cdt, rfl, hgt, hglt, hrdt⟩ := mine_rowT hMt
    have hrgt := (hrdt _ gW69_0).1
    refine fw_hr (fun X => Below w.heap.size w X ∧ RowAt X q11 [.int .i64 (cLs (low32 isv) t).link, .int .i64 (cLs (low32 isv) t).ip, .int .i64 (cLs (low32 isv) t).pp, .int .i64 (cLs (low32 isv) t).po, .int .i64 (cLs (low32 isv) t).st, .int .i64 (cLs (low32 isv) t).una, .int .i64 (cLs (low32 isv) t).nxt, .int .i64 (cLs (low32 isv) t).win, .slice aot (cLs (low32 isv) t).out.length cot, .int .i64 (cLs (low32 isv) t).rn, .slice apt (cLs (low32 isv) t).ps.length cpt, .bool (cLs (low32 isv) t).cl, .bool (cLs (low32 isv) t).tm.on, .int .i64 (cLs (low32 isv) t).tm.left, .int .i64 (cLs (low32 isv) t).tm.wait, .int .i64 (cLs (low32 isv) t).tm.tries] ∧ RowAt X gt [.int .i64 (sH (low32 isv)).sp, .int .i64 (sH (low32 isv)).dp, .int .i64 (sH (low32 isv)).sq, .int .i64 (sH (low32 isv)).ak, .int .i64 (sH (low32 isv)).fl, .int .i64 (sH (low32 isv)).wn, .slice adt (sH (low32 isv)).d.length cdt] ∧ Tch (fun k => k < Bzt) Vt X) (by kernel_rfl) 20 rfl ?_
    intro W73 s74
    have b75 := bW69.trans (s74.mono bW69.size)
    have r76 := rW69_0.below s74
    have r77 := hrgt.below s74
    have f78 := (Tch.grow gW69_0 s74)
    refine ⟨⟨b75, r76, r77, f78⟩, ?_⟩
    refine fw_tk 0 rfl rfl (by kernel_rfl) (fun _ _ _ _ _ h => h) ?_
    refine fw_tk 1 rfl rfl (by kernel_rfl) (fun _ _ _ _ _ h => h) ?_
    refine fw_tk 2 rfl rfl (by kernel_rfl) (fun _ _ _ _ _ h => h) ?_
    refine fw_tk 3 rfl rfl (by kernel_rfl) (fun _ _ _ _ _ h => h) ?_
    refine fw_kh 87 rfl (not_of (by rw [hl3]; try rfl)) ?_
    refine fw_tk 4 rfl rfl (by kernel_rfl) (fun _ _ _ _ _ h => h) ?_
    refine fw_tx 5 89 (.pointer (some ⟨gt, 0, none⟩)) rfl rfl rfl rfl (fun a h W hW => by obtain ⟨b75, r76, r77, f78⟩ := hW; exact (run_indexOp (h.ev rfl) (h.ev rfl) (idxSegA _ _ _ (by rw [hl3]; exact Nat.zero_lt_one) _))) (by kernel_rfl) (fun _ _ _ _ _ h => h) ?_
    refine fw_tk 6 rfl rfl (by kernel_rfl) (fun _ _ _ _ _ h => h) ?_
    refine fw_tl 7 (fun _ h => h.2.2.1) rfl rfl rfl (by kernel_rfl) (fun _ _ _ _ _ h => h) ?_
    refine fw_tx 8 92 (.string (⟨#[104]⟩ : ByteArray)) rfl rfl rfl rfl (fun a h W hW => by obtain ⟨b75, r76, r77, f78⟩ := hW; exact (run_convOp (h.ev rfl) (conv_of_sl (hrdt _ f78).2 (fun h => nomatch h)))) (by kernel_rfl) (fun _ _ _ _ _ h => h) ?_
    refine fw_tx 9 93 (.bool false) rfl rfl rfl rfl (fun a h W hW => by obtain ⟨b75, r76, r77, f78⟩ := hW; exact (run_binOp (h.ev rfl) (h.ev rfl) (strG _ _ _ _ _) (strNe_s _ _))) (by kernel_rfl) (fun _ _ _ _ _ h => h) ?_
    refine fw_tk 10 rfl rfl (by kernel_rfl) (fun _ _ _ _ _ h => h) ?_
    refine fw_tk 11 rfl rfl (by kernel_rfl) (fun _ _ _ _ _ h => h) ?_
    refine fw_tk 12 rfl rfl (by kernel_rfl) (fun _ _ _ _ _ h => h) ?_
    refine fw_tx 13 97 (.pointer (some ⟨gt, 0, none⟩)) rfl rfl rfl rfl (fun a h W hW => by obtain ⟨b75, r76, r77, f78⟩ := hW; exact (run_indexOp (h.ev rfl) (h.ev rfl) (idxSegA _ _ _ (by rw [hl3]; exact Nat.zero_lt_one) _))) (by kernel_rfl) (fun _ _ _ _ _ h => h) ?_
    refine fw_tk 14 rfl rfl (by kernel_rfl) (fun _ _ _ _ _ h => h) ?_
    refine fw_tl 15 (fun _ h => h.2.2.1) rfl rfl rfl (by kernel_rfl) (fun _ _ _ _ _ h => h) ?_
    refine fw_tk 16 rfl rfl (by kernel_rfl) (fun _ _ _ _ _ h => h) ?_
    refine fw_o1 17 (by kernel_rfl) ?_
    refine fw_oc rfl Try.func18 rfl rfl rfl ((rAdd_q (low32 isv) 1 W73)) ?_
    rintro _ _ ⟨rfl, rfl⟩
    refine ⟨(.int .i64 (addv (low32 isv) 1)), rfl, ?_⟩
    refine ⟨⟨b75, r76, r77, f78⟩, ?_⟩
    refine fw_tk 18 rfl rfl (by kernel_rfl) (fun _ _ _ _ _ h => h) ?_
    refine fw_tk 19 rfl rfl (by kernel_rfl) (fun _ _ _ _ _ h => h) ?_
    refine fw_ht (by kernel_rfl) ?_
    refine fw_cF rfl (not_of (beq_self_eq_true _)) ?_
    refine fw_sk ?_
    refine fw_th ?_
    refine fw_sq ?_
    refine fw_hr (fun X => Below w.heap.size w X ∧ RowAt X gt [.int .i64 (sH (low32 isv)).sp, .int .i64 (sH (low32 isv)).dp, .int .i64 (sH (low32 isv)).sq, .int .i64 (sH (low32 isv)).ak, .int .i64 (sH (low32 isv)).fl, .int .i64 (sH (low32 isv)).wn, .slice adt (sH (low32 isv)).d.length cdt] ∧ Tch (fun k => k < Bzt) Vt X) (by kernel_rfl) 13 rfl ?_
    intro W79 s80
    have b81 := b75.trans (s80.mono b75.size)
    have r82 := r76.below s80
    have r83 := r77.below s80
    have f84 := (Tch.grow f78 s80)
    refine ⟨⟨b81, r83, f84⟩, ?_⟩
    refine fw_tk 1 rfl rfl (by kernel_rfl) (fun _ _ _ _ _ h => h) ?_
    refine fw_lqm 0 2 3 108 (.agg #[.int .i64 3, .int .i64 4, .int .i64 10, .int .i64 (addv (low32 isv) 2), .int .i64 16, .int .i64 100, .slice none 0 0]) (by kernel_rfl) (by kernel_rfl) (by kernel_rfl) (by kernel_rfl) (by kernel_rfl) ⟨rfl, rfl, rfl⟩ r82 Try.func18 rfl rfl rfl rfl rfl rfl rfl rfl rfl rfl ⟨rfl, rfl⟩ rfl rfl rfl rfl (fun _ _ _ _ _ h => h) (fun a h W => (run_buildOp (bp6 (h.ev rfl) (h.ev rfl) (h.ev rfl) (h.ev rfl) (h.ev rfl) (h.ev rfl)) (by first | kernel_rfl | rfl))) (fun a h => (run_buildOp (bp6 (h.ev rfl) (h.ev rfl) (h.ev rfl) (h.ev rfl) (h.ev rfl) (h.ev rfl)) (by first | kernel_rfl | rfl))) ((rAdd_q (low32 isv) 2 W79)) ?_
    refine fw_o1 4 (by kernel_rfl) ?_
    have := r82.2.2
    have := r83.2.2
    obtain ⟨Bz86, hBz86⟩ : ∃ x, x = W79.heap.size := ⟨_, rfl⟩
    have hwB86 : w.heap.size ≤ Bz86 := by rw [hBz86]; exact b81.size
    refine fw_oc rfl Try.func36 rfl rfl rfl (pTake (cLs (low32 isv) t) aot apt cot cpt W79 (mine_reads hMt f84).1 (mine_reads hMt f84).2.1 (by rw [(ok_L (low32 isv) ht).2]; exact Nat.zero_le _) (by rw [(ok_L (low32 isv) ht).2]; exact fun x hx => (nomatch hx)) (s2 (low32 isv)) none 0 (take_L (low32 isv) hb_72).2.1 (Sl_nil _) (take_L (low32 isv) hb_72).1) ?_
    rintro _ V86 ⟨ao86, co86, ap86, cp86, al86, cl86, vt86, rfl, hM86, hb85⟩
    refine ⟨_, rfl, ?_⟩
    have hT86 := Tch.refl (fun k => k < Bz86) V86
    rw [← hBz86] at hM86
    have hz86 := mine_size hM86
    obtain ⟨g86, ad86, cd86, rfl, hg86, hgl86, hrd86⟩ := mine_rowT hM86
    have hrg86 := (hrd86 _ (Tch.refl _ _)).1
    have := Nat.lt_of_lt_of_le r82.2.2 (hBz86 ▸ hg86)
    have := Nat.lt_of_lt_of_le r83.2.2 (hBz86 ▸ hg86)
    have b87 := b81.trans (hb85.mono b81.size)
    have r88 := r82.below hb85
    have r89 := r83.below hb85
    have f90 := (Tch.grow f84 hb85)
    refine ⟨⟨b87, r89, f90⟩, ?_⟩
    refine fw_tk 5 rfl rfl (by kernel_rfl) (fun _ _ _ _ _ h => h) ?_
    refine fw_tk 6 rfl rfl (by kernel_rfl) (fun _ _ _ _ _ h => h) ?_
    refine fw_tk 7 rfl rfl (by kernel_rfl) (fun _ _ _ _ _ h => h) ?_
    refine fw_tk 8 rfl rfl (by kernel_rfl) (fun _ _ _ _ _ h => h) ?_
    refine fw_tk 9 rfl rfl (by kernel_rfl) (fun _ _ _ _ _ h => h) ?_
    refine fw_o1 10 (by kernel_rfl) ?_
    refine fw_os rfl r88 rfl rfl ?_
    intro W91 s92 r93
    have b94 := below_chg b87 s92 (by omega) b87.size
    have r95 := r89.chg s92 (by omega)
    have r96 := hrg86.chg s92 (by omega)
    have f97 := (Tch.chg f90 s92 (.inl (by omega)))
    have f98 := (Tch.chg hT86 s92 (.inl (by omega)))
    refine ⟨⟨b94, r95, f97⟩, ?_⟩
    refine fw_tk 11 rfl rfl (by kernel_rfl) (fun _ _ _ _ _ h => h) ?_
    refine fw_tk 12 rfl rfl (by kernel_rfl) (fun _ _ _ _ _ h => h) ?_
    refine fw_ht (by kernel_rfl) ?_
    refine fw_sq ?_
    refine fw_hr (fun X => Below w.heap.size w X ∧ RowAt X q11 [.int .i64 (cS4 (low32 isv)).link, .int .i64 (cS4 (low32 isv)).ip, .int .i64 (cS4 (low32 isv)).pp, .int .i64 (cS4 (low32 isv)).po, .int .i64 (cS4 (low32 isv)).st, .int .i64 (cS4 (low32 isv)).una, .int .i64 (cS4 (low32 isv)).nxt, .int .i64 (cS4 (low32 isv)).win, .slice ao86 (cS4 (low32 isv)).out.length co86, .int .i64 (cS4 (low32 isv)).rn, .slice ap86 (cS4 (low32 isv)).ps.length cp86, .bool (cS4 (low32 isv)).cl, .bool (cS4 (low32 isv)).tm.on, .int .i64 (cS4 (low32 isv)).tm.left, .int .i64 (cS4 (low32 isv)).tm.wait, .int .i64 (cS4 (low32 isv)).tm.tries] ∧ RowAt X gt [.int .i64 (sH (low32 isv)).sp, .int .i64 (sH (low32 isv)).dp, .int .i64 (sH (low32 isv)).sq, .int .i64 (sH (low32 isv)).ak, .int .i64 (sH (low32 isv)).fl, .int .i64 (sH (low32 isv)).wn, .slice adt (sH (low32 isv)).d.length cdt] ∧ RowAt X g86 [.int .i64 (sE (low32 isv)).sp, .int .i64 (sE (low32 isv)).dp, .int .i64 (sE (low32 isv)).sq, .int .i64 (sE (low32 isv)).ak, .int .i64 (sE (low32 isv)).fl, .int .i64 (sE (low32 isv)).wn, .slice ad86 (sE (low32 isv)).d.length cd86] ∧ Tch (fun k => k < Bzt) Vt X ∧ Tch (fun k => k < Bz86) V86 X) (by kernel_rfl) 33 rfl ?_
    intro W99 s100
    have b101 := b94.trans (s100.mono b94.size)
    have r102 := r93.below s100
    have r103 := r95.below s100
    have r104 := r96.below s100
    have f105 := (Tch.grow f97 s100)
    have f106 := (Tch.grow f98 s100)
    refine ⟨⟨b101, r102, r103, r104, f105, f106⟩, ?_⟩
    refine fw_tk 0 rfl rfl (by kernel_rfl) (fun _ _ _ _ _ h => h) ?_
    refine fw_o1 1 (by kernel_rfl) ?_
    refine fw_oc rfl Try.func38 rfl rfl rfl ((num16_any 0 W99)) ?_
    rintro _ _ ⟨rfl, rfl⟩
    refine ⟨(.int .i64 0), rfl, ?_⟩
    refine ⟨⟨b101, r102, r103, r104, f105, f106⟩, ?_⟩
    refine fw_tk 2 rfl rfl (by kernel_rfl) (fun _ _ _ _ _ h => h) ?_
    refine fw_tk 3 rfl rfl (by kernel_rfl) (fun _ _ _ _ _ h => h) ?_
    refine fw_tk 4 rfl rfl (by kernel_rfl) (fun _ _ _ _ _ h => h) ?_
    refine fw_tk 5 rfl rfl (by kernel_rfl) (fun _ _ _ _ _ h => h) ?_
    refine fw_tk 6 rfl rfl (by kernel_rfl) (fun _ _ _ _ _ h => h) ?_
    refine fw_tk 7 rfl rfl (by kernel_rfl) (fun _ _ _ _ _ h => h) ?_
    refine fw_tk 8 rfl rfl (by kernel_rfl) (fun _ _ _ _ _ h => h) ?_
    refine fw_kh 122 rfl rfl ?_
    refine fw_tk 9 rfl rfl (by kernel_rfl) (fun _ _ _ _ _ h => h) ?_
    refine fw_tx 10 124 (.pointer (some ⟨g86, 0, none⟩)) rfl rfl rfl rfl (fun a h W hW => by obtain ⟨b101, r102, r103, r104, f105, f106⟩ := hW; exact (run_indexOp (h.ev rfl) (h.ev rfl) (idxSegA _ _ _ Nat.zero_lt_one _))) (by kernel_rfl) (fun _ _ _ _ _ h => h) ?_
    refine fw_tk 11 rfl rfl (by kernel_rfl) (fun _ _ _ _ _ h => h) ?_
    refine fw_tl 12 (fun _ h => h.2.2.2.1) rfl rfl rfl (by kernel_rfl) (fun _ _ _ _ _ h => h) ?_
    refine fw_tx 13 127 (.string (⟨#[101, 108, 108, 111]⟩ : ByteArray)) rfl rfl rfl rfl (fun a h W hW => by obtain ⟨b101, r102, r103, r104, f105, f106⟩ := hW; exact (run_convOp (h.ev rfl) (conv_of_sl (hrd86 _ f106).2 (fun h => nomatch h)))) (by kernel_rfl) (fun _ _ _ _ _ h => h) ?_
    refine fw_tx 14 128 (.bool true) rfl rfl rfl rfl (fun a h W hW => by obtain ⟨b101, r102, r103, r104, f105, f106⟩ := hW; exact (run_binOp (h.ev rfl) (h.ev rfl) (strG _ _ _ _ _) (strEq_s _ _))) (by kernel_rfl) (fun _ _ _ _ _ h => h) ?_
    refine fw_tk 15 rfl rfl (by kernel_rfl) (fun _ _ _ _ _ h => h) ?_
    refine fw_tk 16 rfl rfl (by kernel_rfl) (fun _ _ _ _ _ h => h) ?_
    refine fw_tk 17 rfl rfl (by kernel_rfl) (fun _ _ _ _ _ h => h) ?_
    refine fw_tx 18 132 (.pointer (some ⟨g86, 0, none⟩)) rfl rfl rfl rfl (fun a h W hW => by obtain ⟨b101, r102, r103, r104, f105, f106⟩ := hW; exact (run_indexOp (h.ev rfl) (h.ev rfl) (idxSegA _ _ _ Nat.zero_lt_one _))) (by kernel_rfl) (fun _ _ _ _ _ h => h) ?_
    refine fw_tk 19 rfl rfl (by kernel_rfl) (fun _ _ _ _ _ h => h) ?_
    refine fw_tl 20 (fun _ h => h.2.2.2.1) rfl rfl rfl (by kernel_rfl) (fun _ _ _ _ _ h => h) ?_
    refine fw_tk 21 rfl rfl (by kernel_rfl) (fun _ _ _ _ _ h => h) ?_
    refine fw_o1 22 (by kernel_rfl) ?_
    refine fw_oc rfl Try.func18 rfl rfl rfl ((rAdd_q (low32 isv) 2 W99)) ?_
    rintro _ _ ⟨rfl, rfl⟩
    refine ⟨(.int .i64 (addv (low32 isv) 2)), rfl, ?_⟩
    refine ⟨⟨b101, r102, r103, r104, f105, f106⟩, ?_⟩
    refine fw_tk 23 rfl rfl (by kernel_rfl) (fun _ _ _ _ _ h => h) ?_
    refine fw_tk 24 rfl rfl (by kernel_rfl) (fun _ _ _ _ _ h => h) ?_
    refine fw_tk 25 rfl rfl (by kernel_rfl) (fun _ _ _ _ _ h => h) ?_
    refine fw_kh 139 rfl (beq_self_eq_true _) ?_
    refine fw_tl 26 (fun _ h => h.2.1) rfl rfl rfl (by kernel_rfl) (fun _ _ _ _ _ h => h) ?_
    refine fw_o1 27 (by kernel_rfl) ?_
    refine fw_oc rfl Try.func31 rfl rfl rfl ((rconn_any (cS4 (low32 isv)) ao86 ap86 co86 cp86 W99 (mine_reads hM86 f106).2.1 (Nat.zero_le _) (fun x hx => (nomatch hx)))) ?_
    rintro _ V108 ⟨rfl, hb107⟩
    refine ⟨(.bool (okC (cS4 (low32 isv)))), rfl, ?_⟩
    have b109 := b101.trans (hb107.mono b101.size)
    have r110 := r102.below hb107
    have r111 := r103.below hb107
    have r112 := r104.below hb107
    have f113 := (Tch.grow f105 hb107)
    have f114 := (Tch.grow f106 hb107)
    refine ⟨⟨b109, r110, r111, r112, f113, f114⟩, ?_⟩
    refine fw_tk 28 rfl rfl (by kernel_rfl) (fun _ _ _ _ _ h => h) ?_
    refine fw_tk 29 rfl rfl (by kernel_rfl) (fun _ _ _ _ _ h => h) ?_
    refine fw_kh 143 rfl (okU (by decide) (by decide) (by decide) (by decide) (by decide)) ?_
    refine fw_o1 30 (by kernel_rfl) ?_
    refine fw_oc rfl Try.func40 rfl rfl rfl ((wakes16_any V108)) ?_
    rintro _ V116 ⟨rfl, hb115⟩
    refine ⟨(.bool true), rfl, ?_⟩
    have b117 := b109.trans (hb115.mono b109.size)
    have r118 := r110.below hb115
    have r119 := r111.below hb115
    have r120 := r112.below hb115
    have f121 := (Tch.grow f113 hb115)
    have f122 := (Tch.grow f114 hb115)
    refine ⟨⟨b117, r118, r119, r120, f121, f122⟩, ?_⟩
    refine fw_tk 31 rfl rfl (by kernel_rfl) (fun _ _ _ _ _ h => h) ?_
    refine fw_tk 32 rfl rfl (by kernel_rfl) (fun _ _ _ _ _ h => h) ?_
    refine fw_ht (by kernel_rfl) ?_
    refine fw_fg [(2, _)] ⟨rfl, trivial⟩ ?_
    refine fw_rt ?_
    refine ⟨fun a h => ?_⟩
    exact ow_ret1 rfl h.df (h.g 2 rfl) ⟨rfl, b117⟩
  refine fw_rg rfl ?_
  iterate 3 refine fw_pu rfl ?_
  refine fw_kn 68 rfl (decide_eq_true (by omega)) ?_
  iterate 4 refine fw_pu rfl ?_
  refine fw_dt ?_
  refine fw_cT rfl (by rw [(tick_L (low32 isv) (show t < 3 by have := of_decide_eq_false hb_72; omega)).2]; rfl) ?_
  refine fw_sk ?_
  refine fw_th ?_
  refine fw_sq ?_
  refine fw_bk ?_
  refine fw_sq ?_
  refine fw_rg rfl ?_
  refine fw_ld rW69_0 rfl rfl ?_
  have ht3 : t < 3 := by have := of_decide_eq_false hb_72; omega
  have := rW69_0.2.2
  obtain ⟨Bz124, hBz124⟩ : ∃ x, x = W69.heap.size := ⟨_, rfl⟩
  have hwB124 : w.heap.size ≤ Bz124 := by rw [hBz124]; exact bW69.size
  refine fw_ca Try.func35 rfl rfl rfl (pTick (cLs (low32 isv) t) aot apt cot cpt W69 (ok_L (low32 isv) ht).1 (mine_reads hMt gW69_0).1 (mine_reads hMt gW69_0).2.1 (by rw [(ok_L (low32 isv) ht).2]; exact Nat.zero_le _) (by rw [(ok_L (low32 isv) ht).2]; exact fun x hx => (nomatch hx)) (tick_L (low32 isv) ht3).1) ?_
  rintro _ V124 ⟨ao124, co124, ap124, cp124, al124, cl124, rfl, hM124, hb123⟩
  refine ⟨_, rfl, ?_⟩
  have hT124 := Tch.refl (fun k => k < Bz124) V124
  rw [← hBz124] at hM124
  have hz124 := mine_size hM124
  have b125 := bW69.trans (hb123.mono bW69.size)
  have r126 := rW69_0.below hb123
  have f127 := (Tch.grow gW69_0 hb123)
  iterate 4 refine fw_pu rfl ?_
  refine fw_st r126 rfl rfl ?_
  intro W128 s129 r130
  have b131 := below_chg b125 s129 (by omega) b125.size
  have f132 := (Tch.chg f127 s129 (.inl (by omega)))
  have f133 := (Tch.chg hT124 s129 (.inl (by omega)))
  iterate 2 refine fw_pu rfl ?_
  refine fw_dt ?_
  refine fw_sq ?_
  refine fw_rg rfl ?_
  refine fw_pu rfl ?_
  refine fw_ca Try.func38 rfl rfl rfl ((num16_any 0 W128)) ?_
  rintro _ _ ⟨rfl, rfl⟩
  refine ⟨(.int .i64 0), rfl, ?_⟩
  refine fw_pu rfl ?_
  refine fw_dt ?_
  refine fw_cF rfl rfl ?_
  refine fw_sk ?_
  refine fw_bn ?_
  refine fw_th ?_
  refine fw_rg rfl ?_
  refine fw_pu rfl ?_
  refine fw_ex 74 (.int .i64 (((t + 1) : Nat) : Int)) rfl rfl rfl (fun a h => (run_binOp (h.ev rfl) (h.ev rfl) (by simp [go_sem]) (addIw _ _ _ _ (by omega) (by omega) (by omega)))) ?_
  refine fw_pu rfl ?_
  refine fw_dn ?_
  exact fw_th (fw_gf (hK71 _ _ _ (by omega) ⟨(t + 1), Bz124, V124, ao124, ap124, al124, co124, cp124, cl124, al124, cl124, rfl, (by omega), hM124, (by omega), (by omega), (fun _ => ⟨rfl, rfl⟩), rfl, b131, r130, f133⟩) ⟨rfl, rfl, (by first | rfl | (simp only [Look, cond, Nat.beq]; first | rfl | (congr 2; first | rfl | omega | (push_cast; omega)) | (simp; try omega))), (by first | rfl | (simp only [Look, cond, Nat.beq]; first | rfl | (congr 2; first | rfl | omega | (push_cast; omega)) | (simp; try omega))), trivial⟩)
namespace tcpShut
open Go.ChangeShapes Go.WideShapes Go.ChangeAt
theorem own : ownKnob Try.prog.godebug = none := by kernel_rfl
theorem laidOut : laidOutB Try.prog = true := by kernel_rfl
set_option maxRecDepth 100000 in
theorem lifted (os : Os) (started : os.Started) (H : Type) (enc : TypeId × Value → H) :
    ReturnsInHanded {} Try.checked os 11 .any (Rows.tcpShutSpec.pre6 enc Try.prog Try.f11 Rows.tcpShutRow.domain false) (Rows.tcpShutSpec.post enc Try.prog Try.f11 false true false false) := by
  refine returnsInHanded_of_change_sized (C := Try.checked) own started (by kernel_rfl) Try.func11
    (ChangeSpec.witness6 (enc := enc) (C := Try.checked) false ⟨#[], #[.agg #[.slice none 0 0, .slice none 0 0, .int .i64 0, .int .i64 0, .slice none 0 0, .slice none 0 0]], []⟩ 12 (by kernel_rfl) (by kernel_rfl) (by kernel_rfl) (by kernel_rfl)) ?_
  intro W base args ds gs before hval0 hW _ hsz0 _
  have hsz : (DataW.weightsEach Try.prog (Try.f11.params.toList ++ Rows.tcpShutSpec.plain.varTypes Try.prog) (ds ++ gs)).all (· ≤ reachBytes) = true := hsz0
  clear hsz0
  have hval : ∀ (j : Nat) t v, Try.f11.params[j]? = some t → args[j]? = some v → Value.okWide Try.prog W .any base t v := hval0
  have hW' := hW
  obtain ⟨p, q, hA0, hV, rfl, hfz, hnd⟩ := hW
  have hA : DataW.TrodAll enc Try.prog W 0 (fun _ => true) true Try.f11.params.toList args.toList ds p := hA0
  rw [Try.params11] at hA hval
  obtain ⟨v0, vs0, d0, ds0, p0, q0, hargs, rfl, rfl, h0, r0⟩ := trodAll_cons hA
  obtain ⟨rfl, rfl, rfl⟩ := trodAll_nil r0
  obtain rfl : args = #[v0] := by cases args; simp_all
  obtain ⟨rfl, rfl⟩ := trodVars_none hV
  obtain ⟨cs0, rfl⟩ : ∃ cs0 : Array Value, v0 = .agg cs0 := by
    have h := hval 0 82 v0 rfl rfl
    unfold Value.okWide at h
    rw [Try.underlying82] at h
    exact ⟨h.choose, h.choose_spec.1⟩
  have k0 := h0
  have lt0 : ∀ x ∈ p0, x.block < W.heap.size := by obtain ⟨m, hm⟩ := k0; exact DataW.trod_lt m _ _ _ hm
  have hrd : RdZ Try.prog W 82 cs0.toList := by obtain ⟨fuel, hf⟩ := h0; exact ⟨H, enc, 0, _, true, fuel, _, hf, by simp only [List.all_eq_true]; intro n hn; exact List.all_eq_true.1 hsz n (DataW.weights_mem_each (j := 0) rfl rfl n hn)⟩
  clear hA0 hval0
  refine (show Calls Try.prog 11 _ W (fun e W' => e = .returned (.bool true) ∧ Below W.heap.size W W') from by have := tcpShut_walk W _ hrd; rwa [Array.toArray_toList] at this).mono fun e W' ⟨he, bel⟩ => ?_
  subst he
  exact ⟨_, rfl, _, _, _, [], _, [], hW', trodAll_mk1 (shut_bool Try.underlying4 _), (trodAll_cons_mk (Below.trod laidOut (by kernel_rfl) (of_decide_eq_true (by kernel_rfl)) k0 bel lt0) trodAll_mk0), rfl, bel.frame _, fun h => by cases h⟩
theorem over : Rows.tcpShutRow.holds Try.pinned (OpenSpec.ofChange Rows.tcpShutSpec) :=
  OpenClaim.holds_of_wide 11 Try.f11 rfl rfl rfl rfl rfl rfl rfl ⟨rfl, rfl, rfl, rfl, rfl⟩ rfl rfl rfl rfl rfl (by kernel_rfl) Try.func11 (by kernel_rfl)
    (of_decide_eq_true (by kernel_rfl)) (by unfold Func.isWrapper; first | (rw [if_pos (by decide +kernel)]; kernel_rfl) | (rw [if_neg (by decide +kernel)]; exact ⟨rfl, rfl⟩))
    (fun os started H enc _ => lifted os started H enc)
/-- THE STATEMENT. -/
theorem proved : Rows.TcpShutSaid := over
end tcpShut
-- CLAIM: TcpShut tcpShut.proved
end Go.Proofs.Ytjgbiffgmafhmaa
