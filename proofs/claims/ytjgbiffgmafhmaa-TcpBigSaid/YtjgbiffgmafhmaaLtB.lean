/-
  The law TcpBig.
-/
import Derived.Test.YtjgbiffgmafhmaaLtBB
import Derived.Test.YtjgbiffgmafhmaaLtBReW
namespace Go.Proofs.Ytjgbiffgmafhmaa
open Go.RowKit Go.Lib
theorem mkB1 {a : Act} {d : Option Tmp} {ty : TypeId} {pos : String} {af : Array Edge} {g : Option (Nat × Bool)} (w : World) : (execOp a.eval ⟨d, .makeSlice 34 (.const (.int .i64 1618)) (.const (.int .i64 1618)), ty, pos, af, g⟩).run Try.prog w = .ok (.value (.slice (some ⟨w.heap.size, 0, none⟩) 1618 1618)) (w.alloc (.cells ((List.replicate 1618 (0 : UInt8)).map B8).toArray 5)) := by
  obtain ⟨i0, hi, hz0, hz1, hz2⟩ := info_parts infoU8
  have h := run_makeSlice (P := Try.prog) w 34 5 i0 (.int .u8 0) Try.underlying34 hi hz0 .i64 .i64 1618 1618 (by decide) (by decide) (by rw [hz1]; decide) (by rw [hz2]; decide) (by decide)
  rw [hz1, rep_cells (.int .u8 0) (.int .u8 0) _ rfl, show (1618 : Int).toNat = 1618 from rfl, Nat.mul_one] at h
  rw [List.map_replicate, show B8 0 = .int .u8 0 from rfl]
  simp only [execOp, eval_cst, Sem.run_bind, h, Result.andThen_ok, Sem.run_pure]
theorem mkB2 {a : Act} {d : Option Tmp} {ty : TypeId} {pos : String} {af : Array Edge} {g : Option (Nat × Bool)} (w : World) : (execOp a.eval ⟨d, .makeSlice 34 (.const (.int .i64 8192)) (.const (.int .i64 8192)), ty, pos, af, g⟩).run Try.prog w = .ok (.value (.slice (some ⟨w.heap.size, 0, none⟩) 8192 8192)) (w.alloc (.cells ((List.replicate 8192 (0 : UInt8)).map B8).toArray 5)) := by
  obtain ⟨i0, hi, hz0, hz1, hz2⟩ := info_parts infoU8
  have h := run_makeSlice (P := Try.prog) w 34 5 i0 (.int .u8 0) Try.underlying34 hi hz0 .i64 .i64 8192 8192 (by decide) (by decide) (by rw [hz1]; decide) (by rw [hz2]; decide) (by decide)
  rw [hz1, rep_cells (.int .u8 0) (.int .u8 0) _ rfl, show (8192 : Int).toNat = 8192 from rfl, Nat.mul_one] at h
  rw [List.map_replicate, show B8 0 = .int .u8 0 from rfl]
  simp only [execOp, eval_cst, Sem.run_bind, h, Result.andThen_ok, Sem.run_pure]
theorem sl_row {W : World} {q : Nat} {ds : List UInt8} {n : Nat} (h : RowAt W q (ds.map B8)) (hn : ds.length = n) (hm : n ≤ maxLen) : Sl W (.slice (some ⟨q, 0, none⟩) n n) ds := by
  subst hn
  refine ⟨_, _, rfl, Nat.le_refl _, hm, by simp, fun _ => ⟨q, 0, rfl, h.2.2, fun i x hi => ?_⟩⟩
  rw [Nat.zero_add]
  exact h.1 i (B8 x) (by rw [List.getElem?_map, hi]; rfl)
theorem stB_b {ds : List UInt8} {i : Nat} (x : UInt8) (h : i < ds.length) : stB (ds.map B8) i [B8 x] = true := by
  unfold stB
  rw [Bool.and_eq_true]
  exact ⟨Nat.ble_eq_true_of_le (by rw [List.length_map]; exact h), rfl⟩
theorem setR_b (ds : List UInt8) (i : Nat) (x : UInt8) : setR (ds.map B8) i [B8 x] = (ds.set i x).map B8 := by
  rw [setR_eq, List.map_set]; rfl
theorem rem251 (i : Nat) (w : World) : (binOp .rem 3 (.int .i64 (i : Int)) (.int .i64 251)).run Try.prog w = .ok (.int .i64 ((i % 251 : Nat) : Int)) w := by
  have h2 : Int.tmod (i : Int) 251 = ((i % 251 : Nat) : Int) := by rw [Int.tmod_eq_emod_of_nonneg (by omega)]; omega
  simp [go_sem, h2]
theorem convB (i : Nat) (w : World) : (convert 3 5 (.int .i64 ((i % 251 : Nat) : Int))).run Try.prog w = .ok (B8 (UInt8.ofNat (i % 251))) w := by
  simp [go_sem, convert, IntKind.wrap_u8, B8]
theorem idxSeg1 (b n cap : Nat) (hi : 1 < n) (w : World) : (Instr.indexAt 73 (.slice (some ⟨b, 0, none⟩) n cap) (.int .i64 1)).run Try.prog w = .ok (.pointer (some ⟨b, 7, none⟩)) w := by
  have h2 : ¬ (n : Int) ≤ 1 := by omega
  simp [go_sem, Instr.indexAt, h2, Addr.add]
theorem idxSeg2 (b n cap : Nat) (hi : 2 < n) (w : World) : (Instr.indexAt 73 (.slice (some ⟨b, 0, none⟩) n cap) (.int .i64 2)).run Try.prog w = .ok (.pointer (some ⟨b, 14, none⟩)) w := by
  have h2 : ¬ (n : Int) ≤ 2 := by omega
  simp [go_sem, Instr.indexAt, h2, Addr.add]
/-- Segments that were sent, in memory. -/
theorem mine_rows {B : Nat} {c1 : EC} {l1 : List ES} {t1 : List UInt8} {ao ap al : Option Addr} {co cp cl : Nat} {vt : Value} {W : World} (h : Mine B c1 l1 t1 ao co ap cp al cl vt W) (hne : 0 < l1.length) : ∃ g, ∃ V : List (Option Addr × Nat), al = some ⟨g, 0, none⟩ ∧ B ≤ g ∧ V.length = l1.length ∧ RowAt W g ((l1.zip V).map fun p => p.1.row (.slice p.2.1 p.1.d.length p.2.2)).flatten := by
  obtain ⟨PL, SL, q, hps, hsl, col, hm⟩ := h
  have hlen : SL.length = l1.length := by rw [← hsl, List.length_map]
  obtain ⟨g, rfl⟩ := down_some hm.s (by omega)
  have hr := own_rowAt hm.s.row
  have key : ∀ (SL : List (ES × Value)), (∀ p ∈ SL, ∃ ad cd, p.2 = .slice ad p.1.d.length cd) → ∃ V : List (Option Addr × Nat), V.length = SL.length ∧ SL.map (fun p => KSeg.row p.1 p.2) = (((SL.map Prod.fst).zip V).map fun p => p.1.row (.slice p.2.1 p.1.d.length p.2.2)) := by
    intro SL
    induction SL with
    | nil => exact fun _ => ⟨[], rfl, rfl⟩
    | cons p SL ih =>
      intro hp
      obtain ⟨V, h1, h2⟩ := ih (fun x hx => hp x (List.mem_cons_of_mem _ hx))
      obtain ⟨ad, cd, e⟩ := hp p (List.mem_cons_self ..)
      refine ⟨(ad, cd) :: V, by rw [List.length_cons, List.length_cons, h1], ?_⟩
      rw [List.map_cons, List.map_cons, List.zip_cons_cons, List.map_cons, h2]
      congr 1
      show ES.row p.1 p.2 = _
      rw [e]
  obtain ⟨V, h1, h2⟩ := key SL (fun p hp => by
    obtain ⟨ad, cd, e⟩ := own_slice (hm.s.dat p hp)
    exact ⟨ad, cd, e⟩)
  refine ⟨g, V, rfl, (blk_lt hm.s.row (k := g) rfl).1, by rw [h1, hlen], ?_⟩
  rw [h2, hsl] at hr
  exact hr
theorem dv (ls a b : Int) (h : -2147483648 ≤ a - b ∧ a - b < 2147483648) : diffv (addv ls a) (addv ls b) = a - b := by unfold diffv addv; omega
theorem avav (ls a b : Int) : addv (addv ls a) b = addv ls (a + b) := by unfold addv; omega
theorem mayTk {c : EC} {s : ES} (h1 : okC c = true) (h2 : okS s = true) (h3 : (s.sp == c.pp && s.dp == c.po) = true) : mayTake c s = true := by unfold mayTake; rw [h1, h2, h3]; rfl
def cU (ls a b wn : Int) (out : List UInt8) (m : Tm) : EC := ⟨1, 2, 3, 4, 2, addv ls a, addv ls b, wn, out, 10, [], false, m⟩
theorem okU {ls a b wn : Int} {out : List UInt8} {m : Tm} (h : 0 ≤ b - a ∧ b - a ≤ out.length) (ho : out.length ≤ 8192) (hw : 0 ≤ wn ∧ wn < 65536) (hm : tv m = true) : okC (cU ls a b wn out m) = true := by
  have h1 := addv_bd ls a
  have h2 := addv_bd ls b
  have e : okC (cU ls a b wn out m) = (decide (0 ≤ (1 : Int) ∧ (1 : Int) ≤ 1099511627776 ∧ 0 ≤ (2 : Int) ∧ (2 : Int) < 4294967296 ∧ 0 ≤ (3 : Int) ∧ (3 : Int) < 65536 ∧ 0 ≤ (4 : Int) ∧ (4 : Int) < 65536 ∧ 0 ≤ (2 : Int) ∧ (2 : Int) ≤ 8 ∧ 0 ≤ addv ls a ∧ addv ls a < 4294967296 ∧ 0 ≤ addv ls b ∧ addv ls b < 4294967296 ∧ 0 ≤ wn ∧ wn < 65536 ∧ out.length ≤ 8192) && (bufB 10 [] && tv m) && decide (0 ≤ diffv (addv ls b) (addv ls a) ∧ diffv (addv ls b) (addv ls a) ≤ out.length)) := rfl
  rw [e, hm, bufB_nil (by decide) (by decide), dv ls b a (by omega), decide_eq_true (show 0 ≤ b - a ∧ b - a ≤ (out.length : Int) from h), Bool.and_true, Bool.and_true, Bool.and_true]
  exact decide_eq_true (by omega)
theorem sentU {ls a b wn : Int} {out : List UInt8} {m : Tm} (h : -2147483648 ≤ b - a ∧ b - a < 2147483648) : sentv (cU ls a b wn out m) = b - a := dv ls b a h
theorem pumpNU {ls a b wn : Int} {out : List UInt8} {m : Tm} (h : -2147483648 ≤ b - a ∧ b - a < 2147483648) : pumpN (cU ls a b wn out m) = min 536 (min (out.length - (b - a)) (wn - (b - a))) := by
  have e : pumpN (cU ls a b wn out m) = min 536 (min (out.length - sentv (cU ls a b wn out m)) (wn - sentv (cU ls a b wn out m))) := rfl
  rw [e, sentU h]
theorem pumpLU {ls a b wn k : Int} {out : List UInt8} {m : Tm} {l : List ES} {f : Nat} (h : -2147483648 ≤ b - a ∧ b - a < 2147483648) (hk : min 536 (min (out.length - (b - a)) (wn - (b - a))) = k) (h0 : 0 < k) : pumpL (f + 1) (cU ls a b wn out m) l = pumpL f (cU ls a (b + k) wn out m) (l ++ [⟨4, 3, addv ls b, 10, 24, 2048, (out.drop (b - a).toNat).take k.toNat⟩]) := by
  have e := pumpNU (ls := ls) (m := m) (out := out) (wn := wn) h
  rw [hk] at e
  rw [pumpL_go (by rw [e]; omega), e, sentU h]
  show pumpL f { cU ls a b wn out m with nxt := addv (addv ls b) k } _ = _
  rw [avav]
  rfl
theorem pumpEU {ls a b wn : Int} {out : List UInt8} {m : Tm} {l : List ES} {f : Nat} (h : -2147483648 ≤ b - a ∧ b - a < 2147483648) (hk : min 536 (min (out.length - (b - a)) (wn - (b - a))) ≤ 0) : pumpL (f + 1) (cU ls a b wn out m) l = (cU ls a b wn out m, l) := pumpL_stop (by rw [pumpNU h]; exact hk)
theorem pumpSU {ls a b b2 wn : Int} {out : List UInt8} {l l2 : List ES} (hL : pumpL (out.length + 1) (cU ls a b wn out tm0) l = (cU ls a b2 wn out tm0, l2)) (h : -2147483648 ≤ b2 - a ∧ b2 - a < 2147483648) : pumpS (cU ls a b wn out tm0) l = (if 0 < b2 - a ∨ b2 - a < out.length then cU ls a b2 wn out (tmS 3) else cU ls a b2 wn out tm0, l2) := by
  have e : pumpS (cU ls a b wn out tm0) l = (let q := pumpF (pumpL (out.length + 1) (cU ls a b wn out tm0) l).1 (pumpL (out.length + 1) (cU ls a b wn out tm0) l).2; (pumpT q.1, q.2)) := rfl
  rw [e, hL]
  show (pumpT (cU ls a b2 wn out tm0), l2) = _
  have e2 : pumpT (cU ls a b2 wn out tm0) = if (decide (0 < sentv (cU ls a b2 wn out tm0)) || decide (sentv (cU ls a b2 wn out tm0) < out.length)) = true then cU ls a b2 wn out (tmS 3) else cU ls a b2 wn out tm0 := rfl
  rw [e2, sentU h]
  by_cases h1 : 0 < b2 - a ∨ b2 - a < out.length
  · rw [if_pos h1, if_pos (by simpa using h1)]
  · rw [if_neg h1, if_neg (by simpa using h1)]
def sT2 : ES := ⟨3, 4, 9, 0, 2, 543, []⟩
def cT2 (ls : Int) : EC := ⟨1, 2, 3, 4, 1, ls, addv ls 1, 543, [], 10, [], false, tmS 3⟩
theorem openT2 (ls : Int) : openS 1 2 ls sT2 = (cT2 ls, [sS ls]) := rfl
theorem mayT2 {ls : Int} (h : 0 ≤ ls ∧ ls < 4294967296) : mayOpen 1 2 ls sT2 = true := by
  have e : mayOpen 1 2 ls sT2 = (decide (0 ≤ (1 : Int) ∧ (1 : Int) ≤ 1099511627776 ∧ 0 ≤ (2 : Int) ∧ (2 : Int) < 4294967296 ∧ 0 ≤ ls ∧ ls < 4294967296) && (okS sT2 && (fb sT2.fl 2 && !fb sT2.fl 20))) := rfl
  rw [e, show (okS sT2 && (fb sT2.fl 2 && !fb sT2.fl 20)) = true by decide +kernel, Bool.and_true]
  exact decide_eq_true (by omega)
theorem okT2 {ls : Int} (h : 0 ≤ ls ∧ ls < 4294967296) : okC (cT2 ls) = true := by
  have h1 := addv_bd ls 1
  have e : okC (cT2 ls) = (decide (0 ≤ (1 : Int) ∧ (1 : Int) ≤ 1099511627776 ∧ 0 ≤ (2 : Int) ∧ (2 : Int) < 4294967296 ∧ 0 ≤ (3 : Int) ∧ (3 : Int) < 65536 ∧ 0 ≤ (4 : Int) ∧ (4 : Int) < 65536 ∧ 0 ≤ (1 : Int) ∧ (1 : Int) ≤ 8 ∧ 0 ≤ ls ∧ ls < 4294967296 ∧ 0 ≤ addv ls 1 ∧ addv ls 1 < 4294967296 ∧ 0 ≤ (543 : Int) ∧ (543 : Int) < 65536 ∧ (0 : Nat) ≤ 8192) && (bufB 10 [] && tv (tmS 3)) && decide (diffv (addv ls 1) ls = 1)) := rfl
  rw [e, show tv (tmS 3) = true from rfl, bufB_nil (by decide) (by decide), decide_eq_true (show diffv (addv ls 1) ls = 1 by unfold diffv addv; omega), Bool.and_true, Bool.and_true, Bool.and_true]
  exact decide_eq_true (by omega)
def b1 (ls : Int) : ES := ⟨3, 4, 10, addv ls 1, 16, 543, []⟩
def b2 (ls : Int) : ES := ⟨3, 4, 10, addv ls 544, 16, 5000, []⟩
theorem okB (ls : Int) : okS (b1 ls) = true ∧ okS (b2 ls) = true := by
  have h1 := addv_bd ls 1
  have h2 := addv_bd ls 544
  refine ⟨decide_eq_true ?_, decide_eq_true ?_⟩
  · show 0 ≤ (3 : Int) ∧ (3 : Int) < 65536 ∧ 0 ≤ (4 : Int) ∧ (4 : Int) < 65536 ∧ 0 ≤ (10 : Int) ∧ (10 : Int) < 4294967296 ∧ 0 ≤ addv ls 1 ∧ addv ls 1 < 4294967296 ∧ 0 ≤ (16 : Int) ∧ (16 : Int) ≤ 63 ∧ 0 ≤ (543 : Int) ∧ (543 : Int) < 65536 ∧ 0 ≤ 1460
    omega
  · show 0 ≤ (3 : Int) ∧ (3 : Int) < 65536 ∧ 0 ≤ (4 : Int) ∧ (4 : Int) < 65536 ∧ 0 ≤ (10 : Int) ∧ (10 : Int) < 4294967296 ∧ 0 ≤ addv ls 544 ∧ addv ls 544 < 4294967296 ∧ 0 ≤ (16 : Int) ∧ (16 : Int) ≤ 63 ∧ 0 ≤ (5000 : Int) ∧ (5000 : Int) < 65536 ∧ 0 ≤ 1460
    omega
theorem takeB1 (ls : Int) : takeS (cT2 ls) (b1 ls) = (cU ls 1 1 543 [] tm0, [], []) := by
  have hb : (addv ls 1 == addv ls 1) = true := beq_self_eq_true _
  have h1 : ackC (cT2 ls) (b1 ls) = cU ls 1 1 543 [] tm0 := by
    show (if (addv ls 1 == addv ls 1) = true then _ else _) = _
    rw [hb]; rfl
  have h2 : ackL (cT2 ls) [] (b1 ls) = [] := by
    show (if (addv ls 1 == addv ls 1) = true then _ else _) = _
    rw [hb]; rfl
  have h3 : ackB (cT2 ls) (b1 ls) = true := hb
  rw [take_ack (of_decide_eq_true rfl) (show accS _ _ = true from rfl) rfl h3 rfl (by rw [h1]; rfl) (by rw [h1]; exact ⟨of_decide_eq_true rfl, of_decide_eq_true rfl⟩), h1, h2]
  show (lastT (pumpS (cU ls 1 1 543 [] tm0) []).1, (pumpS (cU ls 1 1 543 [] tm0) []).2, ([] : List UInt8)) = _
  rw [pumpSU (pumpEU (by decide) (by decide)) (by decide), if_neg (by decide)]
  show (lastT (cU ls 1 1 543 [] tm0), _, _) = _
  rw [lastT_2 (by rw [sentU (by decide)]; rfl)]
theorem sendB (ls : Int) {ds : List UInt8} (hl : ds.length = 1618) : pumpS { cU ls 1 1 543 [] tm0 with out := (cU ls 1 1 543 [] tm0).out ++ ds } [] = (cU ls 1 544 543 ds (tmS 3), [⟨4, 3, addv ls 1, 10, 24, 2048, (ds.drop 0).take 536⟩, ⟨4, 3, addv ls 537, 10, 24, 2048, (ds.drop 536).take 7⟩]) := by
  have e : ({ cU ls 1 1 543 [] tm0 with out := (cU ls 1 1 543 [] tm0).out ++ ds } : EC) = cU ls 1 1 543 ds tm0 := rfl
  have hL : pumpL (ds.length + 1) (cU ls 1 1 543 ds tm0) [] = (cU ls 1 544 543 ds tm0, [⟨4, 3, addv ls 1, 10, 24, 2048, (ds.drop 0).take 536⟩, ⟨4, 3, addv ls 537, 10, 24, 2048, (ds.drop 536).take 7⟩]) := by
    rw [show ds.length + 1 = 1616 + 1 + 1 + 1 by omega, pumpLU (k := 536) (by decide) (by rw [hl]; decide) (by decide), pumpLU (k := 7) (by decide) (by rw [hl]; decide) (by decide), pumpEU (by decide) (by rw [hl]; decide)]
    rfl
  rw [e, pumpSU hL (by decide), if_pos (.inl (by decide))]
theorem takeB2 (ls : Int) {ds : List UInt8} (hl : ds.length = 1618) : takeS (cU ls 1 544 543 ds (tmS 3)) (b2 ls) = (cU ls 544 1619 5000 (ds.drop 543) (tmS 3), [⟨4, 3, addv ls 544, 10, 24, 2048, ((ds.drop 543).drop 0).take 536⟩, ⟨4, 3, addv ls 1080, 10, 24, 2048, ((ds.drop 543).drop 536).take 536⟩, ⟨4, 3, addv ls 1616, 10, 24, 2048, ((ds.drop 543).drop 1072).take 3⟩], []) := by
  have d1 : diffv (addv ls 544) (addv ls 544) = 0 := (dv ls 544 544 (by decide)).trans (by decide)
  have d2 : diffv (addv ls 544) (addv ls 1) = 543 := (dv ls 544 1 (by decide)).trans (by decide)
  have hl2 : (ds.drop 543).length = 1075 := by rw [List.length_drop, hl]
  have h1 : ackC (cU ls 1 544 543 ds (tmS 3)) (b2 ls) = cU ls 544 544 543 (ds.drop 543) tm0 := by
    have e : ackC (cU ls 1 544 543 ds (tmS 3)) (b2 ls) = if (0 : Int) < diffv (addv ls 544) (addv ls 544) then cU ls 1 544 543 ds (tmS 3) else ackF (ackU (cU ls 1 544 543 ds (tmS 3)) (b2 ls)) := rfl
    have e2 : ackU (cU ls 1 544 543 ds (tmS 3)) (b2 ls) = if 0 < diffv (addv ls 544) (addv ls 1) then { cU ls 1 544 543 ds (tmS 3) with out := ds.drop (min (diffv (addv ls 544) (addv ls 1)) ds.length).toNat, una := addv ls 544, tm := tm0 } else cU ls 1 544 543 ds (tmS 3) := rfl
    rw [e, d1, if_neg (by decide), e2, d2, if_pos (by decide), hl, show (min (543 : Int) ((1618 : Nat) : Int)).toNat = 543 from rfl]
    show ackF (cU ls 544 544 543 (ds.drop 543) tm0) = _
    unfold ackF
    split <;> rfl
  have h2 : ackL (cU ls 1 544 543 ds (tmS 3)) [] (b2 ls) = [] := by
    have e : ackL (cU ls 1 544 543 ds (tmS 3)) [] (b2 ls) = if (0 : Int) < diffv (addv ls 544) (addv ls 544) then ackN (cU ls 1 544 543 ds (tmS 3)) [] else [] := rfl
    rw [e, d1]; rfl
  have h3 : ackB (cU ls 1 544 543 ds (tmS 3)) (b2 ls) = true := by
    have e : ackB (cU ls 1 544 543 ds (tmS 3)) (b2 ls) = !decide (0 < diffv (addv ls 544) (addv ls 544)) := rfl
    rw [e, d1]; rfl
  rw [take_ack (of_decide_eq_true rfl) (show accS _ _ = true from rfl) rfl h3 rfl (by rw [h1]; rfl) (by rw [h1]; exact ⟨of_decide_eq_true rfl, of_decide_eq_true rfl⟩), h1, h2]
  show (lastT (pumpS (cU ls 544 544 5000 (ds.drop 543) tm0) []).1, (pumpS (cU ls 544 544 5000 (ds.drop 543) tm0) []).2, ([] : List UInt8)) = _
  have hL : pumpL ((ds.drop 543).length + 1) (cU ls 544 544 5000 (ds.drop 543) tm0) [] = (cU ls 544 1619 5000 (ds.drop 543) tm0, [⟨4, 3, addv ls 544, 10, 24, 2048, ((ds.drop 543).drop 0).take 536⟩, ⟨4, 3, addv ls 1080, 10, 24, 2048, ((ds.drop 543).drop 536).take 536⟩, ⟨4, 3, addv ls 1616, 10, 24, 2048, ((ds.drop 543).drop 1072).take 3⟩]) := by
    rw [show (ds.drop 543).length + 1 = 1072 + 1 + 1 + 1 + 1 by omega, pumpLU (k := 536) (by decide) (by rw [hl2]; decide) (by decide), pumpLU (k := 536) (by decide) (by rw [hl2]; decide) (by decide), pumpLU (k := 3) (by decide) (by rw [hl2]; decide) (by decide), pumpEU (by decide) (by rw [hl2]; decide)]
    rfl
  rw [pumpSU hL (by decide), if_pos (.inl (by decide))]
  show (lastT (cU ls 544 1619 5000 (ds.drop 543) (tmS 3)), _, _) = _
  rw [lastT_1 rfl]
theorem sendB5 (ls : Int) {ds : List UInt8} (hl : ds.length = 1618) : sendE (cU ls 544 1619 5000 (ds.drop 543) (tmS 3)) 8192 = 5 := by
  have e : sendE (cU ls 544 1619 5000 (ds.drop 543) (tmS 3)) 8192 = if 8192 ≤ 8192 - (ds.drop 543).length then 0 else 5 := rfl
  rw [e, List.length_drop, hl, if_neg (by decide)]
set_option maxRecDepth 100000 in
set_option maxHeartbeats 4000000 in
theorem tcpBig_walk (w : World) (cs : List Value) (h : RdZ Try.prog w 82 cs) :
    Calls Try.prog 12 #[.agg cs.toArray] w fun e w' => e = .returned (.bool true) ∧ Below w.heap.size w w' := by
  obtain ⟨A, B, aA, aB, aL, aW, cA, cB, cL, cW, nL, nW, sz, isv, rfl, hA, hB⟩ := talk_of w cs h
  have hb0 := Below.refl w.heap.size w
  refine fw_en 147 [(0, .agg #[.slice aA A.length cA, .slice aB B.length cB, .int .i64 sz, .int .i64 isv, .slice aL nL cL, .slice aW nW cW])] Try.func12 rfl Try.ntmps12 rfl ⟨rfl, trivial⟩ ?_
  refine fw_sq ?_
  refine fw_rg rfl ?_
  refine fw_bx rfl (cs := [.slice aA A.length cA, .slice aB B.length cB, .int .i64 sz, .int .i64 isv, .slice aL nL cL, .slice aW nW cW]) rfl ?_
  intro q1 W2 g5 s3 r4
  have := Nat.le_trans hb0.size g5
  have b6 := hb0.trans (s3.mono hb0.size)
  refine fw_pu rfl ?_
  refine fw_dt ?_
  refine fw_sq ?_
  refine fw_rg rfl ?_
  refine fw_pu rfl ?_
  refine fw_ld r4 rfl rfl ?_
  refine fw_ex 19 ((.int .u32 (low32 isv))) rfl rfl rfl (fun a h => (run_convOp (h.ev rfl) (conv32 _ _))) ?_
  refine fw_ex 20 (.int .i64 (low32 isv)) rfl rfl rfl (fun a h => (run_convOp (h.ev rfl) (conv64 _ _))) ?_
  refine fw_pu rfl ?_
  refine fw_dt ?_
  refine fw_sq ?_
  refine fw_rg rfl ?_
  refine fw_al (t := 5) (u := fun q => .slice (some ⟨q, 0, none⟩) 1618 1618) 21 ((List.replicate 1618 (0 : UInt8)).map B8) rfl rfl rfl (fun a h => (mkB1 _)) ?_
  intro q7 W8 g11 s9 r10
  have := Nat.le_trans b6.size g11
  have := r4.lt g11
  have b12 := b6.trans (s9.mono b6.size)
  have r13 := r4.below s9
  refine fw_pu rfl ?_
  refine fw_dt ?_
  refine fw_sq ?_
  refine fw_sq ?_
  refine fw_rg rfl ?_
  refine fw_pu rfl ?_
  refine fw_dt ?_
  refine fw_bk ?_
  refine fw_lp (fun N K W => ∃ (i : Nat) (ds : List UInt8), N = 1618 - i ∧ i ≤ 1618 ∧ ds.length = 1618 ∧ K = [(3, .int .i64 (low32 isv)), (4, .slice (some ⟨q7, 0, none⟩) 1618 1618), (5, .int .i64 ((i : Nat) : Int))] ∧ Below w.heap.size w W ∧ RowAt W q1 [.slice aA A.length cA, .slice aB B.length cB, .int .i64 sz, .int .i64 isv, .slice aL nL cL, .slice aW nW cW] ∧ RowAt W q7 (ds.map B8)) _ _ ⟨0, (List.replicate 1618 (0 : UInt8)), rfl, (Nat.zero_le _), List.length_replicate, rfl, b12, r13, r10⟩ ⟨rfl, rfl, (by first | rfl | (simp only [Look, cond, Nat.beq]; first | rfl | (congr 2; first | rfl | omega | (push_cast; omega)) | (simp; try omega))), trivial⟩ ?_
  rintro N _ W14 ⟨i, ds, rfl, hi1, hdl, rfl, bW14, rW14_0, rW14_1⟩
  intro K16 hK16
  refine fw_sq ?_
  refine fw_sq ?_
  refine fw_rg rfl ?_
  iterate 4 refine fw_pu rfl ?_
  refine fw_dt ?_
  rcases Bool.eq_false_or_eq_true ((decide (((i : Nat) : Int) < 1618))) with hb_17 | hb_17
  · skip
    refine fw_cT rfl hb_17 ?_
    refine fw_sk ?_
    refine fw_th ?_
    refine fw_sq ?_
    refine fw_bk ?_
    refine fw_rg rfl ?_
    iterate 3 refine fw_pu rfl ?_
    refine fw_ex 31 (.int .i64 (((i % 251) : Nat) : Int)) rfl rfl rfl (fun a h => (run_binOp (h.ev rfl) (h.ev rfl) (by simp [go_sem]) (rem251 _ _))) ?_
    refine fw_ex 32 ((B8 (UInt8.ofNat (i % 251)))) rfl rfl rfl (fun a h => (run_convOp (h.ev rfl) (convB _ _))) ?_
    refine fw_ex 33 (.pointer (some ⟨q7, i, none⟩)) rfl rfl rfl (fun a h => (run_indexOp (h.ev rfl) (h.ev rfl) (idxByteRow _ _ _ _ (by have h0 := of_decide_eq_true hb_17; omega) _))) ?_
    have hi := of_decide_eq_true hb_17
    refine fw_st rW14_1 rfl (stB_b _ (by rw [hdl]; omega)) ?_
    intro W18 s19 r20
    rw [setR_b] at r20
    have b21 := below_chg bW14 s19 (by omega) bW14.size
    have r22 := rW14_0.chg s19 (by omega)
    refine fw_dn ?_
    refine fw_bn ?_
    refine fw_th ?_
    refine fw_rg rfl ?_
    refine fw_pu rfl ?_
    refine fw_ex 27 (.int .i64 (((i + 1) : Nat) : Int)) rfl rfl rfl (fun a h => (run_binOp (h.ev rfl) (h.ev rfl) (by simp [go_sem]) (addIw _ _ _ _ (by omega) (by omega) (by omega)))) ?_
    refine fw_pu rfl ?_
    refine fw_dn ?_
    exact fw_th (fw_gf (hK16 _ _ _ (by omega) ⟨(i + 1), (ds.set i (UInt8.ofNat (i % 251))), rfl, (by omega), (by rw [List.length_set]; exact hdl), rfl, b21, r22, r20⟩) ⟨rfl, rfl, (by first | rfl | (simp only [Look, cond, Nat.beq]; first | rfl | (congr 2; first | rfl | omega | (push_cast; omega)) | (simp; try omega))), trivial⟩)
  refine fw_cF rfl hb_17 ?_
  refine fw_xt ?_
  refine fw_te ?_
  refine fw_te ?_
  refine fw_be ?_
  refine fw_th ?_
  refine fw_sq ?_
  refine fw_rg rfl ?_
  refine fw_pu rfl ?_
  refine fw_ex 36 (.agg #[.int .i64 3, .int .i64 4, .int .i64 9, .int .i64 0, .int .i64 2, .int .i64 543, .slice none 0 0]) rfl rfl rfl (fun a h => (run_buildOp (bp5 (h.ev rfl) (h.ev rfl) (h.ev rfl) (h.ev rfl) (h.ev rfl)) (by first | kernel_rfl | rfl))) ?_
  have hls := low32_bd isv
  have := rW14_0.2.2
  have := rW14_1.2.2
  obtain ⟨Bz24, hBz24⟩ : ∃ x, x = W14.heap.size := ⟨_, rfl⟩
  have hwB24 : w.heap.size ≤ Bz24 := by rw [hBz24]; exact bW14.size
  refine fw_ca Try.func41 rfl rfl rfl (pOpen 1 2 (low32 isv) sT2 none 0 W14 (mayT2 hls) (openT2 (low32 isv))) ?_
  rintro _ V24 ⟨ao24, co24, ap24, cp24, al24, cl24, rfl, hM24, hb23⟩
  refine ⟨_, rfl, ?_⟩
  have hT24 := Tch.refl (fun k => k < Bz24) V24
  rw [← hBz24] at hM24
  have hz24 := mine_size hM24
  have b25 := bW14.trans (hb23.mono bW14.size)
  have r26 := rW14_0.below hb23
  have r27 := rW14_1.below hb23
  iterate 4 refine fw_pu rfl ?_
  refine fw_al (t := 62) (u := fun q => .pointer (some ⟨q, 0, none⟩)) 6 [.int .i64 0, .int .i64 0, .int .i64 0, .int .i64 0, .int .i64 0, .int .i64 0, .int .i64 0, .int .i64 0, .slice none 0 0, .int .i64 0, .slice none 0 0, .bool false, .bool false, .int .i64 0, .int .i64 0, .int .i64 0] rfl rfl rfl (fun a h => (run_allocOp (by simp [go_sem, Instr.alloc]))) ?_
  intro q28 W29 g32 s30 r31
  have := Nat.le_trans b25.size g32
  have := r26.lt g32
  have := r27.lt g32
  have := Nat.le_trans hT24.size g32
  have b33 := b25.trans (s30.mono b25.size)
  have r34 := r26.below s30
  have r35 := r27.below s30
  have f36 := (Tch.grow hT24 s30)
  refine fw_st r31 rfl rfl ?_
  intro W37 s38 r39
  have b40 := below_chg b33 s38 (by omega) b33.size
  have r41 := r34.chg s38 (by omega)
  have r42 := r35.chg s38 (by omega)
  have f43 := (Tch.chg f36 s38 (.inr (by omega)))
  iterate 2 refine fw_pu rfl ?_
  refine fw_dt ?_
  refine fw_sq ?_
  refine fw_hr (fun X => Below w.heap.size w X ∧ RowAt X q1 [.slice aA A.length cA, .slice aB B.length cB, .int .i64 sz, .int .i64 isv, .slice aL nL cL, .slice aW nW cW] ∧ RowAt X q7 (ds.map B8) ∧ Tch (fun k => k < Bz24) V24 X) (by kernel_rfl) 14 rfl ?_
  intro W44 s45
  have b46 := b40.trans (s45.mono b40.size)
  have r47 := r41.below s45
  have r48 := r42.below s45
  have r49 := r39.below s45
  have f50 := (Tch.grow f43 s45)
  refine ⟨⟨b46, r47, r48, f50⟩, ?_⟩
  refine fw_tk 1 rfl rfl (by kernel_rfl) (fun _ _ _ _ _ h => h) ?_
  refine fw_lqm 0 2 3 45 (.agg #[.int .i64 3, .int .i64 4, .int .i64 10, .int .i64 (addv (low32 isv) 1), .int .i64 16, .int .i64 543, .slice none 0 0]) (by kernel_rfl) (by kernel_rfl) (by kernel_rfl) (by kernel_rfl) (by kernel_rfl) ⟨rfl, rfl, rfl⟩ r49 Try.func18 rfl rfl rfl rfl rfl rfl rfl rfl rfl rfl ⟨rfl, rfl⟩ rfl rfl rfl rfl (fun _ _ _ _ _ h => h) (fun a h W => (run_buildOp (bp6 (h.ev rfl) (h.ev rfl) (h.ev rfl) (h.ev rfl) (h.ev rfl) (h.ev rfl)) (by first | kernel_rfl | rfl))) (fun a h => (run_buildOp (bp6 (h.ev rfl) (h.ev rfl) (h.ev rfl) (h.ev rfl) (h.ev rfl) (h.ev rfl)) (by first | kernel_rfl | rfl))) ((rAdd_q (low32 isv) 1 W44)) ?_
  refine fw_o1 4 (by kernel_rfl) ?_
  have := r47.2.2
  have := r48.2.2
  have := r49.2.2
  obtain ⟨Bz52, hBz52⟩ : ∃ x, x = W44.heap.size := ⟨_, rfl⟩
  have hwB52 : w.heap.size ≤ Bz52 := by rw [hBz52]; exact b46.size
  refine fw_oc rfl Try.func36 rfl rfl rfl (pTake (cT2 (low32 isv)) ao24 ap24 co24 cp24 W44 (mine_reads hM24 f50).1 (mine_reads hM24 f50).2.1 (Nat.zero_le _) (fun x hx => (nomatch hx)) (b1 (low32 isv)) none 0 (mayTk (okT2 hls) (okB (low32 isv)).1 rfl) (Sl_nil _) (takeB1 (low32 isv))) ?_
  rintro _ V52 ⟨ao52, co52, ap52, cp52, al52, cl52, vt52, rfl, hM52, hb51⟩
  refine ⟨_, rfl, ?_⟩
  have hT52 := Tch.refl (fun k => k < Bz52) V52
  rw [← hBz52] at hM52
  have hz52 := mine_size hM52
  have b53 := b46.trans (hb51.mono b46.size)
  have r54 := r47.below hb51
  have r55 := r48.below hb51
  have r56 := r49.below hb51
  have f57 := (Tch.grow f50 hb51)
  refine ⟨⟨b53, r54, r55, f57⟩, ?_⟩
  refine fw_tk 5 rfl rfl (by kernel_rfl) (fun _ _ _ _ _ h => h) ?_
  refine fw_tk 6 rfl rfl (by kernel_rfl) (fun _ _ _ _ _ h => h) ?_
  refine fw_tk 7 rfl rfl (by kernel_rfl) (fun _ _ _ _ _ h => h) ?_
  refine fw_tk 8 rfl rfl (by kernel_rfl) (fun _ _ _ _ _ h => h) ?_
  refine fw_tk 9 rfl rfl (by kernel_rfl) (fun _ _ _ _ _ h => h) ?_
  refine fw_o1 10 (by kernel_rfl) ?_
  refine fw_os rfl r56 rfl rfl ?_
  intro W58 s59 r60
  have b61 := below_chg b53 s59 (by omega) b53.size
  have r62 := r54.chg s59 (by omega)
  have r63 := r55.chg s59 (by omega)
  have f64 := (Tch.chg f57 s59 (.inr (by omega)))
  have f65 := (Tch.chg hT52 s59 (.inl (by omega)))
  refine ⟨⟨b61, r62, r63, f64⟩, ?_⟩
  refine fw_tk 11 rfl rfl (by kernel_rfl) (fun _ _ _ _ _ h => h) ?_
  refine fw_tk 12 rfl rfl (by kernel_rfl) (fun _ _ _ _ _ h => h) ?_
  refine fw_tk 13 rfl rfl (by kernel_rfl) (fun _ _ _ _ _ h => h) ?_
  refine fw_ht (by kernel_rfl) ?_
  refine fw_sq ?_
  refine fw_rg rfl ?_
  refine fw_ld r60 rfl rfl ?_
  refine fw_pu rfl ?_
  have := r62.2.2
  have := r63.2.2
  have := r60.2.2
  obtain ⟨Bz67, hBz67⟩ : ∃ x, x = W58.heap.size := ⟨_, rfl⟩
  have hwB67 : w.heap.size ≤ Bz67 := by rw [hBz67]; exact b61.size
  refine fw_ca Try.func33 rfl rfl rfl ((by have h0 := pSend0 (cU (low32 isv) 1 1 543 [] tm0) ao52 ap52 co52 cp52 W58 (okU (by decide) (by decide) (by decide) rfl) (mine_reads hM52 f65).1 (mine_reads hM52 f65).2.1 (Nat.zero_le _) (fun x hx => (nomatch hx)) ds (some ⟨q7, 0, none⟩) 1618 (by rw [hdl]; decide) (by rw [hdl]; exact sl_row r63 hdl (by decide)) (by rw [hdl]; rfl) (sendB (low32 isv) hdl); rw [hdl] at h0; exact h0)) ?_
  rintro _ V67 ⟨ao67, co67, ap67, cp67, al67, cl67, rfl, hM67, hb66⟩
  refine ⟨_, rfl, ?_⟩
  have hT67 := Tch.refl (fun k => k < Bz67) V67
  rw [← hBz67] at hM67
  have hz67 := mine_size hM67
  have hn0 : (((((ds.drop 0).take 536).length : Nat) : Int) == 536) = true := by simp [List.length_take, hdl]
  have hn1 : (((((ds.drop 536).take 7).length : Nat) : Int) == 7) = true := by simp [List.length_take, List.length_drop, hdl]
  obtain ⟨g67, Vv67, rfl, hg67, hvl67, hrg67⟩ := mine_rows hM67 (Nat.succ_pos _)
  match Vv67, hvl67, hrg67 with
  | [⟨ad67_0, cd67_0⟩, ⟨ad67_1, cd67_1⟩], _, hrg67 =>
  replace hrg67 : RowAt V67 g67 [.int .i64 4, .int .i64 3, .int .i64 (addv (low32 isv) 1), .int .i64 10, .int .i64 24, .int .i64 2048, .slice ad67_0 ((ds.drop 0).take 536).length cd67_0, .int .i64 4, .int .i64 3, .int .i64 (addv (low32 isv) 537), .int .i64 10, .int .i64 24, .int .i64 2048, .slice ad67_1 ((ds.drop 536).take 7).length cd67_1] := hrg67
  have := Nat.lt_of_lt_of_le r62.2.2 (hBz67 ▸ hg67)
  have := Nat.lt_of_lt_of_le r63.2.2 (hBz67 ▸ hg67)
  have := Nat.lt_of_lt_of_le r60.2.2 (hBz67 ▸ hg67)
  have b68 := b61.trans (hb66.mono b61.size)
  have r69 := r62.below hb66
  have r70 := r63.below hb66
  have r71 := r60.below hb66
  have f72 := (Tch.grow f64 hb66)
  have f73 := (Tch.grow f65 hb66)
  iterate 4 refine fw_pu rfl ?_
  refine fw_st r71 rfl rfl ?_
  intro W74 s75 r76
  have b77 := below_chg b68 s75 (by omega) b68.size
  have r78 := r69.chg s75 (by omega)
  have r79 := r70.chg s75 (by omega)
  have r80 := hrg67.chg s75 (by omega)
  have f81 := (Tch.chg f72 s75 (.inr (by omega)))
  have f82 := (Tch.chg f73 s75 (.inl (by omega)))
  have f83 := (Tch.chg hT67 s75 (.inl (by omega)))
  iterate 2 refine fw_pu rfl ?_
  refine fw_dt ?_
  refine fw_sq ?_
  refine fw_sq ?_
  refine fw_rg rfl ?_
  refine fw_pu rfl ?_
  refine fw_ca Try.func38 rfl rfl rfl ((num16_any 0 W74)) ?_
  rintro _ _ ⟨rfl, rfl⟩
  refine ⟨(.int .i64 0), rfl, ?_⟩
  iterate 3 refine fw_pu rfl ?_
  refine fw_ca Try.func38 rfl rfl rfl ((num16_any 0 W74)) ?_
  rintro _ _ ⟨rfl, rfl⟩
  refine ⟨(.int .i64 0), rfl, ?_⟩
  iterate 4 refine fw_pu rfl ?_
  refine fw_ca Try.func38 rfl rfl rfl ((num16_any 0 W74)) ?_
  rintro _ _ ⟨rfl, rfl⟩
  refine ⟨(.int .i64 0), rfl, ?_⟩
  iterate 9 refine fw_pu rfl ?_
  refine fw_ex 78 (.pointer (some ⟨g67, 0, none⟩)) rfl rfl rfl (fun a h => (run_indexOp (h.ev rfl) (h.ev rfl) (idxSegA _ _ _ (of_decide_eq_true rfl) _))) ?_
  refine fw_pu rfl ?_
  refine fw_ld r80 rfl rfl ?_
  iterate 4 refine fw_pu rfl ?_
  refine fw_kn 84 rfl (not_of hn0) ?_
  refine fw_pu rfl ?_
  refine fw_ex 86 (.pointer (some ⟨g67, 7, none⟩)) rfl rfl rfl (fun a h => (run_indexOp (h.ev rfl) (h.ev rfl) (idxSeg1 _ _ _ (of_decide_eq_true rfl) _))) ?_
  refine fw_pu rfl ?_
  refine fw_ld r80 rfl rfl ?_
  iterate 3 refine fw_pu rfl ?_
  refine fw_dt ?_
  refine fw_fg [(3, _), (6, _), (91, _)] ⟨rfl, rfl, rfl, trivial⟩ ?_
  refine fw_cF rfl (not_of hn1) ?_
  refine fw_sk ?_
  refine fw_th ?_
  refine fw_sq ?_
  refine fw_hr (fun X => Below w.heap.size w X ∧ RowAt X q1 [.slice aA A.length cA, .slice aB B.length cB, .int .i64 sz, .int .i64 isv, .slice aL nL cL, .slice aW nW cW] ∧ RowAt X q7 (ds.map B8) ∧ RowAt X g67 [.int .i64 4, .int .i64 3, .int .i64 (addv (low32 isv) 1), .int .i64 10, .int .i64 24, .int .i64 2048, .slice ad67_0 ((ds.drop 0).take 536).length cd67_0, .int .i64 4, .int .i64 3, .int .i64 (addv (low32 isv) 537), .int .i64 10, .int .i64 24, .int .i64 2048, .slice ad67_1 ((ds.drop 536).take 7).length cd67_1] ∧ Tch (fun k => k < Bz24) V24 X ∧ Tch (fun k => k < Bz52) V52 X ∧ Tch (fun k => k < Bz67) V67 X) (by kernel_rfl) 13 rfl ?_
  intro W84 s85
  have b86 := b77.trans (s85.mono b77.size)
  have r87 := r78.below s85
  have r88 := r79.below s85
  have r89 := r76.below s85
  have r90 := r80.below s85
  have f91 := (Tch.grow f81 s85)
  have f92 := (Tch.grow f82 s85)
  have f93 := (Tch.grow f83 s85)
  refine ⟨⟨b86, r87, r88, r90, f91, f92, f93⟩, ?_⟩
  refine fw_tk 1 rfl rfl (by kernel_rfl) (fun _ _ _ _ _ h => h) ?_
  refine fw_lqm 0 2 3 96 (.agg #[.int .i64 3, .int .i64 4, .int .i64 10, .int .i64 (addv (low32 isv) 544), .int .i64 16, .int .i64 5000, .slice none 0 0]) (by kernel_rfl) (by kernel_rfl) (by kernel_rfl) (by kernel_rfl) (by kernel_rfl) ⟨rfl, rfl, rfl⟩ r89 Try.func18 rfl rfl rfl rfl rfl rfl rfl rfl rfl rfl ⟨rfl, rfl⟩ rfl rfl rfl rfl (fun _ _ _ _ _ h => h) (fun a h W => (run_buildOp (bp6 (h.ev rfl) (h.ev rfl) (h.ev rfl) (h.ev rfl) (h.ev rfl) (h.ev rfl)) (by first | kernel_rfl | rfl))) (fun a h => (run_buildOp (bp6 (h.ev rfl) (h.ev rfl) (h.ev rfl) (h.ev rfl) (h.ev rfl) (h.ev rfl)) (by first | kernel_rfl | rfl))) ((rAdd_q (low32 isv) 544 W84)) ?_
  refine fw_o1 4 (by kernel_rfl) ?_
  have := r87.2.2
  have := r88.2.2
  have := r89.2.2
  have := r90.2.2
  obtain ⟨Bz95, hBz95⟩ : ∃ x, x = W84.heap.size := ⟨_, rfl⟩
  have hwB95 : w.heap.size ≤ Bz95 := by rw [hBz95]; exact b86.size
  refine fw_oc rfl Try.func36 rfl rfl rfl (pTake (cU (low32 isv) 1 544 543 ds (tmS 3)) ao67 ap67 co67 cp67 W84 (mine_reads hM67 f93).1 (mine_reads hM67 f93).2.1 (Nat.zero_le _) (fun x hx => (nomatch hx)) (b2 (low32 isv)) none 0 (mayTk (okU (by rw [hdl]; decide) (by rw [hdl]; decide) (by decide) rfl) (okB (low32 isv)).2 rfl) (Sl_nil _) (takeB2 (low32 isv) hdl)) ?_
  rintro _ V95 ⟨ao95, co95, ap95, cp95, al95, cl95, vt95, rfl, hM95, hb94⟩
  refine ⟨_, rfl, ?_⟩
  have hT95 := Tch.refl (fun k => k < Bz95) V95
  rw [← hBz95] at hM95
  have hz95 := mine_size hM95
  have hn2 : ((((((ds.drop 543).drop 0).take 536).length : Nat) : Int) == 536) = true := by simp [List.length_take, List.length_drop, hdl]
  have hn3 : ((((((ds.drop 543).drop 536).take 536).length : Nat) : Int) == 536) = true := by simp [List.length_take, List.length_drop, hdl]
  have hn4 : ((((((ds.drop 543).drop 1072).take 3).length : Nat) : Int) == 3) = true := by simp [List.length_take, List.length_drop, hdl]
  obtain ⟨g95, Vv95, rfl, hg95, hvl95, hrg95⟩ := mine_rows hM95 (Nat.succ_pos _)
  match Vv95, hvl95, hrg95 with
  | [⟨ad95_0, cd95_0⟩, ⟨ad95_1, cd95_1⟩, ⟨ad95_2, cd95_2⟩], _, hrg95 =>
  replace hrg95 : RowAt V95 g95 [.int .i64 4, .int .i64 3, .int .i64 (addv (low32 isv) 544), .int .i64 10, .int .i64 24, .int .i64 2048, .slice ad95_0 (((ds.drop 543).drop 0).take 536).length cd95_0, .int .i64 4, .int .i64 3, .int .i64 (addv (low32 isv) 1080), .int .i64 10, .int .i64 24, .int .i64 2048, .slice ad95_1 (((ds.drop 543).drop 536).take 536).length cd95_1, .int .i64 4, .int .i64 3, .int .i64 (addv (low32 isv) 1616), .int .i64 10, .int .i64 24, .int .i64 2048, .slice ad95_2 (((ds.drop 543).drop 1072).take 3).length cd95_2] := hrg95
  have := Nat.lt_of_lt_of_le r87.2.2 (hBz95 ▸ hg95)
  have := Nat.lt_of_lt_of_le r88.2.2 (hBz95 ▸ hg95)
  have := Nat.lt_of_lt_of_le r89.2.2 (hBz95 ▸ hg95)
  have := Nat.lt_of_lt_of_le r90.2.2 (hBz95 ▸ hg95)
  have b96 := b86.trans (hb94.mono b86.size)
  have r97 := r87.below hb94
  have r98 := r88.below hb94
  have r99 := r89.below hb94
  have r100 := r90.below hb94
  have f101 := (Tch.grow f91 hb94)
  have f102 := (Tch.grow f92 hb94)
  have f103 := (Tch.grow f93 hb94)
  refine ⟨⟨b96, r97, r98, r100, f101, f102, f103⟩, ?_⟩
  refine fw_tk 5 rfl rfl (by kernel_rfl) (fun _ _ _ _ _ h => h) ?_
  refine fw_tk 6 rfl rfl (by kernel_rfl) (fun _ _ _ _ _ h => h) ?_
  refine fw_tk 7 rfl rfl (by kernel_rfl) (fun _ _ _ _ _ h => h) ?_
  refine fw_tk 8 rfl rfl (by kernel_rfl) (fun _ _ _ _ _ h => h) ?_
  refine fw_tk 9 rfl rfl (by kernel_rfl) (fun _ _ _ _ _ h => h) ?_
  refine fw_o1 10 (by kernel_rfl) ?_
  refine fw_os rfl r99 rfl rfl ?_
  intro W104 s105 r106
  have b107 := below_chg b96 s105 (by omega) b96.size
  have r108 := r97.chg s105 (by omega)
  have r109 := r98.chg s105 (by omega)
  have r110 := r100.chg s105 (by omega)
  have r111 := hrg95.chg s105 (by omega)
  have f112 := (Tch.chg f101 s105 (.inr (by omega)))
  have f113 := (Tch.chg f102 s105 (.inl (by omega)))
  have f114 := (Tch.chg f103 s105 (.inl (by omega)))
  have f115 := (Tch.chg hT95 s105 (.inl (by omega)))
  refine ⟨⟨b107, r108, r109, r110, f112, f113, f114⟩, ?_⟩
  refine fw_tk 11 rfl rfl (by kernel_rfl) (fun _ _ _ _ _ h => h) ?_
  refine fw_tk 12 rfl rfl (by kernel_rfl) (fun _ _ _ _ _ h => h) ?_
  refine fw_ht (by kernel_rfl) ?_
  refine fw_sq ?_
  refine fw_sq ?_
  refine fw_rg rfl ?_
  refine fw_pu rfl ?_
  refine fw_ca Try.func38 rfl rfl rfl ((num16_any 0 W104)) ?_
  rintro _ _ ⟨rfl, rfl⟩
  refine ⟨(.int .i64 0), rfl, ?_⟩
  iterate 8 refine fw_pu rfl ?_
  refine fw_ex 112 (.pointer (some ⟨g95, 0, none⟩)) rfl rfl rfl (fun a h => (run_indexOp (h.ev rfl) (h.ev rfl) (idxSegA _ _ _ (of_decide_eq_true rfl) _))) ?_
  refine fw_pu rfl ?_
  refine fw_ld r111 rfl rfl ?_
  iterate 4 refine fw_pu rfl ?_
  refine fw_kn 118 rfl (not_of hn2) ?_
  refine fw_pu rfl ?_
  refine fw_ex 120 (.pointer (some ⟨g95, 7, none⟩)) rfl rfl rfl (fun a h => (run_indexOp (h.ev rfl) (h.ev rfl) (idxSeg1 _ _ _ (of_decide_eq_true rfl) _))) ?_
  refine fw_pu rfl ?_
  refine fw_ld r111 rfl rfl ?_
  iterate 4 refine fw_pu rfl ?_
  refine fw_kn 126 rfl (not_of hn3) ?_
  refine fw_pu rfl ?_
  refine fw_ex 128 (.pointer (some ⟨g95, 14, none⟩)) rfl rfl rfl (fun a h => (run_indexOp (h.ev rfl) (h.ev rfl) (idxSeg2 _ _ _ (of_decide_eq_true rfl) _))) ?_
  refine fw_pu rfl ?_
  refine fw_ld r111 rfl rfl ?_
  iterate 3 refine fw_pu rfl ?_
  refine fw_dt ?_
  refine fw_cF rfl (not_of hn4) ?_
  refine fw_sk ?_
  refine fw_th ?_
  refine fw_sq ?_
  refine fw_hr (fun X => Below w.heap.size w X ∧ RowAt X q1 [.slice aA A.length cA, .slice aB B.length cB, .int .i64 sz, .int .i64 isv, .slice aL nL cL, .slice aW nW cW] ∧ RowAt X q7 (ds.map B8) ∧ RowAt X q28 [.int .i64 (cU (low32 isv) 544 1619 5000 (ds.drop 543) (tmS 3)).link, .int .i64 (cU (low32 isv) 544 1619 5000 (ds.drop 543) (tmS 3)).ip, .int .i64 (cU (low32 isv) 544 1619 5000 (ds.drop 543) (tmS 3)).pp, .int .i64 (cU (low32 isv) 544 1619 5000 (ds.drop 543) (tmS 3)).po, .int .i64 (cU (low32 isv) 544 1619 5000 (ds.drop 543) (tmS 3)).st, .int .i64 (cU (low32 isv) 544 1619 5000 (ds.drop 543) (tmS 3)).una, .int .i64 (cU (low32 isv) 544 1619 5000 (ds.drop 543) (tmS 3)).nxt, .int .i64 (cU (low32 isv) 544 1619 5000 (ds.drop 543) (tmS 3)).win, .slice ao95 (cU (low32 isv) 544 1619 5000 (ds.drop 543) (tmS 3)).out.length co95, .int .i64 (cU (low32 isv) 544 1619 5000 (ds.drop 543) (tmS 3)).rn, .slice ap95 (cU (low32 isv) 544 1619 5000 (ds.drop 543) (tmS 3)).ps.length cp95, .bool (cU (low32 isv) 544 1619 5000 (ds.drop 543) (tmS 3)).cl, .bool (cU (low32 isv) 544 1619 5000 (ds.drop 543) (tmS 3)).tm.on, .int .i64 (cU (low32 isv) 544 1619 5000 (ds.drop 543) (tmS 3)).tm.left, .int .i64 (cU (low32 isv) 544 1619 5000 (ds.drop 543) (tmS 3)).tm.wait, .int .i64 (cU (low32 isv) 544 1619 5000 (ds.drop 543) (tmS 3)).tm.tries] ∧ RowAt X g67 [.int .i64 4, .int .i64 3, .int .i64 (addv (low32 isv) 1), .int .i64 10, .int .i64 24, .int .i64 2048, .slice ad67_0 ((ds.drop 0).take 536).length cd67_0, .int .i64 4, .int .i64 3, .int .i64 (addv (low32 isv) 537), .int .i64 10, .int .i64 24, .int .i64 2048, .slice ad67_1 ((ds.drop 536).take 7).length cd67_1] ∧ RowAt X g95 [.int .i64 4, .int .i64 3, .int .i64 (addv (low32 isv) 544), .int .i64 10, .int .i64 24, .int .i64 2048, .slice ad95_0 (((ds.drop 543).drop 0).take 536).length cd95_0, .int .i64 4, .int .i64 3, .int .i64 (addv (low32 isv) 1080), .int .i64 10, .int .i64 24, .int .i64 2048, .slice ad95_1 (((ds.drop 543).drop 536).take 536).length cd95_1, .int .i64 4, .int .i64 3, .int .i64 (addv (low32 isv) 1616), .int .i64 10, .int .i64 24, .int .i64 2048, .slice ad95_2 (((ds.drop 543).drop 1072).take 3).length cd95_2] ∧ Tch (fun k => k < Bz24) V24 X ∧ Tch (fun k => k < Bz52) V52 X ∧ Tch (fun k => k < Bz67) V67 X ∧ Tch (fun k => k < Bz95) V95 X) (by kernel_rfl) 11 rfl ?_
  intro W116 s117
  have b118 := b107.trans (s117.mono b107.size)
  have r119 := r108.below s117
  have r120 := r109.below s117
  have r121 := r106.below s117
  have r122 := r110.below s117
  have r123 := r111.below s117
  have f124 := (Tch.grow f112 s117)
  have f125 := (Tch.grow f113 s117)
  have f126 := (Tch.grow f114 s117)
  have f127 := (Tch.grow f115 s117)
  refine ⟨⟨b118, r119, r120, r121, r122, r123, f124, f125, f126, f127⟩, ?_⟩
  refine fw_tl 0 (fun _ h => h.2.2.2.1) rfl rfl rfl (by kernel_rfl) (fun _ _ _ _ _ h => h) ?_
  refine fw_o2 1 7 (by kernel_rfl) ?_ ?_
  · skip
    refine fw_oa rfl (t := 5) (u := fun q => .slice (some ⟨q, 0, none⟩) 8192 8192) 136 ((List.replicate 8192 (0 : UInt8)).map B8) rfl rfl rfl (fun a h => (mkB2 _)) ?_
    intro q128 W129 g132 s130 r131
    have := Nat.le_trans b118.size g132
    have := r119.lt g132
    have := r120.lt g132
    have := r121.lt g132
    have := r122.lt g132
    have := r123.lt g132
    have := Nat.le_trans f124.size g132
    have := Nat.le_trans f125.size g132
    have := Nat.le_trans f126.size g132
    have := Nat.le_trans f127.size g132
    have b133 := b118.trans (s130.mono b118.size)
    have r134 := r119.below s130
    have r135 := r120.below s130
    have r136 := r121.below s130
    have r137 := r122.below s130
    have r138 := r123.below s130
    have f139 := (Tch.grow f124 s130)
    have f140 := (Tch.grow f125 s130)
    have f141 := (Tch.grow f126 s130)
    have f142 := (Tch.grow f127 s130)
    refine ⟨⟨b133, r134, r135, r136, r137, r138, f139, f140, f141, f142⟩, ?_⟩
    refine fw_o2 2 7 (by kernel_rfl) ?_ ?_
    · skip
      have hl8 : (List.replicate 8192 (0 : UInt8)).length = 8192 := List.length_replicate
      refine fw_oc rfl Try.func33 rfl rfl rfl ((by have h0 := pSend5 (cU (low32 isv) 544 1619 5000 (ds.drop 543) (tmS 3)) ao95 ap95 co95 cp95 W129 (okU (by rw [List.length_drop, hdl]; decide) (by rw [List.length_drop, hdl]; decide) (by decide) rfl) (mine_reads hM95 f142).1 (mine_reads hM95 f142).2.1 (Nat.zero_le _) (fun x hx => (nomatch hx)) (List.replicate 8192 (0 : UInt8)) (some ⟨q128, 0, none⟩) 8192 (by rw [hl8]; decide) (by rw [hl8]; exact sl_row r131 hl8 (by decide)) (by rw [hl8]; exact sendB5 (low32 isv) hdl); rw [hl8] at h0; exact h0)) ?_
      rintro _ V144 ⟨rfl, hb143⟩
      refine ⟨_, rfl, ?_⟩
      have b145 := b133.trans (hb143.mono b133.size)
      have r146 := r134.below hb143
      have r147 := r135.below hb143
      have r148 := r136.below hb143
      have r149 := r137.below hb143
      have r150 := r138.below hb143
      have r151 := r131.below hb143
      have f152 := (Tch.grow f139 hb143)
      have f153 := (Tch.grow f140 hb143)
      have f154 := (Tch.grow f141 hb143)
      have f155 := (Tch.grow f142 hb143)
      refine ⟨⟨b145, r146, r147, r148, r149, r150, f152, f153, f154, f155⟩, ?_⟩
      refine fw_tk 3 rfl rfl (by kernel_rfl) (fun _ _ _ _ _ h => h) ?_
      refine fw_tk 4 rfl rfl (by kernel_rfl) (fun _ _ _ _ _ h => h) ?_
      refine fw_tk 5 rfl rfl (by kernel_rfl) (fun _ _ _ _ _ h => h) ?_
      refine fw_tk 6 rfl rfl (by kernel_rfl) (fun _ _ _ _ _ h => h) ?_
      refine fw_o1 7 (by kernel_rfl) ?_
      refine fw_oa rfl (t := 62) (u := fun q => .pointer (some ⟨q, 0, none⟩)) 14 [.int .i64 0, .int .i64 0, .int .i64 0, .int .i64 0, .int .i64 0, .int .i64 0, .int .i64 0, .int .i64 0, .slice none 0 0, .int .i64 0, .slice none 0 0, .bool false, .bool false, .int .i64 0, .int .i64 0, .int .i64 0] rfl rfl rfl (fun a h => (run_allocOp (by simp [go_sem, Instr.alloc]))) ?_
      intro q156 W157 g160 s158 r159
      have := Nat.le_trans b145.size g160
      have := r146.lt g160
      have := r147.lt g160
      have := r148.lt g160
      have := r149.lt g160
      have := r150.lt g160
      have := r151.lt g160
      have := Nat.le_trans f152.size g160
      have := Nat.le_trans f153.size g160
      have := Nat.le_trans f154.size g160
      have := Nat.le_trans f155.size g160
      have b161 := b145.trans (s158.mono b145.size)
      have r162 := r146.below s158
      have r163 := r147.below s158
      have r164 := r148.below s158
      have r165 := r149.below s158
      have r166 := r150.below s158
      have r167 := r151.below s158
      have f168 := (Tch.grow f152 s158)
      have f169 := (Tch.grow f153 s158)
      have f170 := (Tch.grow f154 s158)
      have f171 := (Tch.grow f155 s158)
      refine ⟨⟨b161, r162, r163, r164, r165, r166, f168, f169, f170, f171⟩, ?_⟩
      refine fw_o1 8 (by kernel_rfl) ?_
      refine fw_os rfl r159 rfl rfl ?_
      intro W172 s173 r174
      have b175 := below_chg b161 s173 (by omega) b161.size
      have r176 := r162.chg s173 (by omega)
      have r177 := r163.chg s173 (by omega)
      have r178 := r164.chg s173 (by omega)
      have r179 := r165.chg s173 (by omega)
      have r180 := r166.chg s173 (by omega)
      have r181 := r167.chg s173 (by omega)
      have f182 := (Tch.chg f168 s173 (.inr (by omega)))
      have f183 := (Tch.chg f169 s173 (.inr (by omega)))
      have f184 := (Tch.chg f170 s173 (.inr (by omega)))
      have f185 := (Tch.chg f171 s173 (.inr (by omega)))
      refine ⟨⟨b175, r176, r177, r178, r179, r180, f182, f183, f184, f185⟩, ?_⟩
      refine fw_tk 9 rfl rfl (by kernel_rfl) (fun _ _ _ _ _ h => h) ?_
      refine fw_tk 10 rfl rfl (by kernel_rfl) (fun _ _ _ _ _ h => h) ?_
      refine fw_ht (by kernel_rfl) ?_
      refine fw_sq ?_
      refine fw_rg rfl ?_
      refine fw_pu rfl ?_
      refine fw_ca Try.func38 rfl rfl rfl ((num16_any 5 W172)) ?_
      rintro _ _ ⟨rfl, rfl⟩
      refine ⟨(.int .i64 5), rfl, ?_⟩
      iterate 2 refine fw_pu rfl ?_
      refine fw_ca Try.func40 rfl rfl rfl ((wakes16_any W172)) ?_
      rintro _ V187 ⟨rfl, hb186⟩
      refine ⟨(.bool true), rfl, ?_⟩
      have b188 := b175.trans (hb186.mono b175.size)
      have r189 := r176.below hb186
      have r190 := r177.below hb186
      have r191 := r178.below hb186
      have r192 := r179.below hb186
      have r193 := r180.below hb186
      have r194 := r181.below hb186
      have r195 := r174.below hb186
      have f196 := (Tch.grow f182 hb186)
      have f197 := (Tch.grow f183 hb186)
      have f198 := (Tch.grow f184 hb186)
      have f199 := (Tch.grow f185 hb186)
      iterate 2 refine fw_pu rfl ?_
      refine fw_dt ?_
      refine fw_fg [(2, _)] ⟨rfl, trivial⟩ ?_
      refine fw_rt ?_
      refine ⟨fun a h => ?_⟩
      exact ow_ret1 rfl h.df (h.g 2 rfl) ⟨rfl, b188⟩
    refine fw_oa rfl (t := 62) (u := fun q => .pointer (some ⟨q, 0, none⟩)) 14 [.int .i64 0, .int .i64 0, .int .i64 0, .int .i64 0, .int .i64 0, .int .i64 0, .int .i64 0, .int .i64 0, .slice none 0 0, .int .i64 0, .slice none 0 0, .bool false, .bool false, .int .i64 0, .int .i64 0, .int .i64 0] rfl rfl rfl (fun a h => (run_allocOp (by simp [go_sem, Instr.alloc]))) ?_
    intro q200 W201 g204 s202 r203
    have := Nat.le_trans b133.size g204
    have := r134.lt g204
    have := r135.lt g204
    have := r136.lt g204
    have := r137.lt g204
    have := r138.lt g204
    have := r131.lt g204
    have := Nat.le_trans f139.size g204
    have := Nat.le_trans f140.size g204
    have := Nat.le_trans f141.size g204
    have := Nat.le_trans f142.size g204
    have b205 := b133.trans (s202.mono b133.size)
    have r206 := r134.below s202
    have r207 := r135.below s202
    have r208 := r136.below s202
    have r209 := r137.below s202
    have r210 := r138.below s202
    have r211 := r131.below s202
    have f212 := (Tch.grow f139 s202)
    have f213 := (Tch.grow f140 s202)
    have f214 := (Tch.grow f141 s202)
    have f215 := (Tch.grow f142 s202)
    refine ⟨⟨b205, r206, r207, r208, r209, r210, f212, f213, f214, f215⟩, ?_⟩
    refine fw_o1 2 (by kernel_rfl) ?_
    have hl8 : (List.replicate 8192 (0 : UInt8)).length = 8192 := List.length_replicate
    refine fw_oc rfl Try.func33 rfl rfl rfl ((by have h0 := pSend5 (cU (low32 isv) 544 1619 5000 (ds.drop 543) (tmS 3)) ao95 ap95 co95 cp95 W201 (okU (by rw [List.length_drop, hdl]; decide) (by rw [List.length_drop, hdl]; decide) (by decide) rfl) (mine_reads hM95 f215).1 (mine_reads hM95 f215).2.1 (Nat.zero_le _) (fun x hx => (nomatch hx)) (List.replicate 8192 (0 : UInt8)) (some ⟨q128, 0, none⟩) 8192 (by rw [hl8]; decide) (by rw [hl8]; exact sl_row r211 hl8 (by decide)) (by rw [hl8]; exact sendB5 (low32 isv) hdl); rw [hl8] at h0; exact h0)) ?_
    rintro _ V217 ⟨rfl, hb216⟩
    refine ⟨_, rfl, ?_⟩
    have b218 := b205.trans (hb216.mono b205.size)
    have r219 := r206.below hb216
    have r220 := r207.below hb216
    have r221 := r208.below hb216
    have r222 := r209.below hb216
    have r223 := r210.below hb216
    have r224 := r211.below hb216
    have r225 := r203.below hb216
    have f226 := (Tch.grow f212 hb216)
    have f227 := (Tch.grow f213 hb216)
    have f228 := (Tch.grow f214 hb216)
    have f229 := (Tch.grow f215 hb216)
    refine ⟨⟨b218, r219, r220, r221, r222, r223, f226, f227, f228, f229⟩, ?_⟩
    refine fw_tk 3 rfl rfl (by kernel_rfl) (fun _ _ _ _ _ h => h) ?_
    refine fw_tk 4 rfl rfl (by kernel_rfl) (fun _ _ _ _ _ h => h) ?_
    refine fw_tk 5 rfl rfl (by kernel_rfl) (fun _ _ _ _ _ h => h) ?_
    refine fw_tk 6 rfl rfl (by kernel_rfl) (fun _ _ _ _ _ h => h) ?_
    refine fw_o1 8 (by kernel_rfl) ?_
    refine fw_os rfl r225 rfl rfl ?_
    intro W230 s231 r232
    have b233 := below_chg b218 s231 (by omega) b218.size
    have r234 := r219.chg s231 (by omega)
    have r235 := r220.chg s231 (by omega)
    have r236 := r221.chg s231 (by omega)
    have r237 := r222.chg s231 (by omega)
    have r238 := r223.chg s231 (by omega)
    have r239 := r224.chg s231 (by omega)
    have f240 := (Tch.chg f226 s231 (.inr (by omega)))
    have f241 := (Tch.chg f227 s231 (.inr (by omega)))
    have f242 := (Tch.chg f228 s231 (.inr (by omega)))
    have f243 := (Tch.chg f229 s231 (.inr (by omega)))
    refine ⟨⟨b233, r234, r235, r236, r237, r238, f240, f241, f242, f243⟩, ?_⟩
    refine fw_tk 9 rfl rfl (by kernel_rfl) (fun _ _ _ _ _ h => h) ?_
    refine fw_tk 10 rfl rfl (by kernel_rfl) (fun _ _ _ _ _ h => h) ?_
    refine fw_ht (by kernel_rfl) ?_
    refine fw_sq ?_
    refine fw_rg rfl ?_
    refine fw_pu rfl ?_
    refine fw_ca Try.func38 rfl rfl rfl ((num16_any 5 W230)) ?_
    rintro _ _ ⟨rfl, rfl⟩
    refine ⟨(.int .i64 5), rfl, ?_⟩
    iterate 2 refine fw_pu rfl ?_
    refine fw_ca Try.func40 rfl rfl rfl ((wakes16_any W230)) ?_
    rintro _ V245 ⟨rfl, hb244⟩
    refine ⟨(.bool true), rfl, ?_⟩
    have b246 := b233.trans (hb244.mono b233.size)
    have r247 := r234.below hb244
    have r248 := r235.below hb244
    have r249 := r236.below hb244
    have r250 := r237.below hb244
    have r251 := r238.below hb244
    have r252 := r239.below hb244
    have r253 := r232.below hb244
    have f254 := (Tch.grow f240 hb244)
    have f255 := (Tch.grow f241 hb244)
    have f256 := (Tch.grow f242 hb244)
    have f257 := (Tch.grow f243 hb244)
    iterate 2 refine fw_pu rfl ?_
    refine fw_dt ?_
    refine fw_fg [(2, _)] ⟨rfl, trivial⟩ ?_
    refine fw_rt ?_
    refine ⟨fun a h => ?_⟩
    exact ow_ret1 rfl h.df (h.g 2 rfl) ⟨rfl, b246⟩
  refine fw_oa rfl (t := 62) (u := fun q => .pointer (some ⟨q, 0, none⟩)) 14 [.int .i64 0, .int .i64 0, .int .i64 0, .int .i64 0, .int .i64 0, .int .i64 0, .int .i64 0, .int .i64 0, .slice none 0 0, .int .i64 0, .slice none 0 0, .bool false, .bool false, .int .i64 0, .int .i64 0, .int .i64 0] rfl rfl rfl (fun a h => (run_allocOp (by simp [go_sem, Instr.alloc]))) ?_
  intro q258 W259 g262 s260 r261
  have := Nat.le_trans b118.size g262
  have := r119.lt g262
  have := r120.lt g262
  have := r121.lt g262
  have := r122.lt g262
  have := r123.lt g262
  have := Nat.le_trans f124.size g262
  have := Nat.le_trans f125.size g262
  have := Nat.le_trans f126.size g262
  have := Nat.le_trans f127.size g262
  have b263 := b118.trans (s260.mono b118.size)
  have r264 := r119.below s260
  have r265 := r120.below s260
  have r266 := r121.below s260
  have r267 := r122.below s260
  have r268 := r123.below s260
  have f269 := (Tch.grow f124 s260)
  have f270 := (Tch.grow f125 s260)
  have f271 := (Tch.grow f126 s260)
  have f272 := (Tch.grow f127 s260)
  refine ⟨⟨b263, r264, r265, r266, r267, r268, f269, f270, f271, f272⟩, ?_⟩
  refine fw_o1 1 (by kernel_rfl) ?_
  refine fw_oa rfl (t := 5) (u := fun q => .slice (some ⟨q, 0, none⟩) 8192 8192) 136 ((List.replicate 8192 (0 : UInt8)).map B8) rfl rfl rfl (fun a h => (mkB2 _)) ?_
  intro q273 W274 g277 s275 r276
  have := Nat.le_trans b263.size g277
  have := r264.lt g277
  have := r265.lt g277
  have := r266.lt g277
  have := r267.lt g277
  have := r268.lt g277
  have := r261.lt g277
  have := Nat.le_trans f269.size g277
  have := Nat.le_trans f270.size g277
  have := Nat.le_trans f271.size g277
  have := Nat.le_trans f272.size g277
  have b278 := b263.trans (s275.mono b263.size)
  have r279 := r264.below s275
  have r280 := r265.below s275
  have r281 := r266.below s275
  have r282 := r267.below s275
  have r283 := r268.below s275
  have r284 := r261.below s275
  have f285 := (Tch.grow f269 s275)
  have f286 := (Tch.grow f270 s275)
  have f287 := (Tch.grow f271 s275)
  have f288 := (Tch.grow f272 s275)
  refine ⟨⟨b278, r279, r280, r281, r282, r283, f285, f286, f287, f288⟩, ?_⟩
  refine fw_o1 2 (by kernel_rfl) ?_
  have hl8 : (List.replicate 8192 (0 : UInt8)).length = 8192 := List.length_replicate
  refine fw_oc rfl Try.func33 rfl rfl rfl ((by have h0 := pSend5 (cU (low32 isv) 544 1619 5000 (ds.drop 543) (tmS 3)) ao95 ap95 co95 cp95 W274 (okU (by rw [List.length_drop, hdl]; decide) (by rw [List.length_drop, hdl]; decide) (by decide) rfl) (mine_reads hM95 f288).1 (mine_reads hM95 f288).2.1 (Nat.zero_le _) (fun x hx => (nomatch hx)) (List.replicate 8192 (0 : UInt8)) (some ⟨q273, 0, none⟩) 8192 (by rw [hl8]; decide) (by rw [hl8]; exact sl_row r276 hl8 (by decide)) (by rw [hl8]; exact sendB5 (low32 isv) hdl); rw [hl8] at h0; exact h0)) ?_
  rintro _ V290 ⟨rfl, hb289⟩
  refine ⟨_, rfl, ?_⟩
  have b291 := b278.trans (hb289.mono b278.size)
  have r292 := r279.below hb289
  have r293 := r280.below hb289
  have r294 := r281.below hb289
  have r295 := r282.below hb289
  have r296 := r283.below hb289
  have r297 := r284.below hb289
  have r298 := r276.below hb289
  have f299 := (Tch.grow f285 hb289)
  have f300 := (Tch.grow f286 hb289)
  have f301 := (Tch.grow f287 hb289)
  have f302 := (Tch.grow f288 hb289)
  refine ⟨⟨b291, r292, r293, r294, r295, r296, f299, f300, f301, f302⟩, ?_⟩
  refine fw_tk 3 rfl rfl (by kernel_rfl) (fun _ _ _ _ _ h => h) ?_
  refine fw_tk 4 rfl rfl (by kernel_rfl) (fun _ _ _ _ _ h => h) ?_
  refine fw_tk 5 rfl rfl (by kernel_rfl) (fun _ _ _ _ _ h => h) ?_
  refine fw_tk 6 rfl rfl (by kernel_rfl) (fun _ _ _ _ _ h => h) ?_
  refine fw_o1 8 (by kernel_rfl) ?_
  refine fw_os rfl r297 rfl rfl ?_
  intro W303 s304 r305
  have b306 := below_chg b291 s304 (by omega) b291.size
  have r307 := r292.chg s304 (by omega)
  have r308 := r293.chg s304 (by omega)
  have r309 := r294.chg s304 (by omega)
  have r310 := r295.chg s304 (by omega)
  have r311 := r296.chg s304 (by omega)
  have r312 := r298.chg s304 (by omega)
  have f313 := (Tch.chg f299 s304 (.inr (by omega)))
  have f314 := (Tch.chg f300 s304 (.inr (by omega)))
  have f315 := (Tch.chg f301 s304 (.inr (by omega)))
  have f316 := (Tch.chg f302 s304 (.inr (by omega)))
  refine ⟨⟨b306, r307, r308, r309, r310, r311, f313, f314, f315, f316⟩, ?_⟩
  refine fw_tk 9 rfl rfl (by kernel_rfl) (fun _ _ _ _ _ h => h) ?_
  refine fw_tk 10 rfl rfl (by kernel_rfl) (fun _ _ _ _ _ h => h) ?_
  refine fw_ht (by kernel_rfl) ?_
  refine fw_sq ?_
  refine fw_rg rfl ?_
  refine fw_pu rfl ?_
  refine fw_ca Try.func38 rfl rfl rfl ((num16_any 5 W303)) ?_
  rintro _ _ ⟨rfl, rfl⟩
  refine ⟨(.int .i64 5), rfl, ?_⟩
  iterate 2 refine fw_pu rfl ?_
  refine fw_ca Try.func40 rfl rfl rfl ((wakes16_any W303)) ?_
  rintro _ V318 ⟨rfl, hb317⟩
  refine ⟨(.bool true), rfl, ?_⟩
  have b319 := b306.trans (hb317.mono b306.size)
  have r320 := r307.below hb317
  have r321 := r308.below hb317
  have r322 := r309.below hb317
  have r323 := r310.below hb317
  have r324 := r311.below hb317
  have r325 := r305.below hb317
  have r326 := r312.below hb317
  have f327 := (Tch.grow f313 hb317)
  have f328 := (Tch.grow f314 hb317)
  have f329 := (Tch.grow f315 hb317)
  have f330 := (Tch.grow f316 hb317)
  iterate 2 refine fw_pu rfl ?_
  refine fw_dt ?_
  refine fw_fg [(2, _)] ⟨rfl, trivial⟩ ?_
  refine fw_rt ?_
  refine ⟨fun a h => ?_⟩
  exact ow_ret1 rfl h.df (h.g 2 rfl) ⟨rfl, b319⟩
namespace tcpBig
open Go.ChangeShapes Go.WideShapes Go.ChangeAt
theorem own : ownKnob Try.prog.godebug = none := by kernel_rfl
theorem laidOut : laidOutB Try.prog = true := by kernel_rfl
set_option maxRecDepth 100000 in
theorem lifted (os : Os) (started : os.Started) (H : Type) (enc : TypeId × Value → H) :
    ReturnsInHanded {} Try.checked os 12 .any (Rows.tcpBigSpec.pre6 enc Try.prog Try.f12 Rows.tcpBigRow.domain false) (Rows.tcpBigSpec.post enc Try.prog Try.f12 false true false false) := by
  refine returnsInHanded_of_change_sized (C := Try.checked) own started (by kernel_rfl) Try.func12
    (ChangeSpec.witness6 (enc := enc) (C := Try.checked) false ⟨#[], #[.agg #[.slice none 0 0, .slice none 0 0, .int .i64 0, .int .i64 0, .slice none 0 0, .slice none 0 0]], []⟩ 12 (by kernel_rfl) (by kernel_rfl) (by kernel_rfl) (by kernel_rfl)) ?_
  intro W base args ds gs before hval0 hW _ hsz0 _
  have hsz : (DataW.weightsEach Try.prog (Try.f12.params.toList ++ Rows.tcpBigSpec.plain.varTypes Try.prog) (ds ++ gs)).all (· ≤ reachBytes) = true := hsz0
  clear hsz0
  have hval : ∀ (j : Nat) t v, Try.f12.params[j]? = some t → args[j]? = some v → Value.okWide Try.prog W .any base t v := hval0
  have hW' := hW
  obtain ⟨p, q, hA0, hV, rfl, hfz, hnd⟩ := hW
  have hA : DataW.TrodAll enc Try.prog W 0 (fun _ => true) true Try.f12.params.toList args.toList ds p := hA0
  rw [Try.params12] at hA hval
  obtain ⟨v0, vs0, d0, ds0, p0, q0, hargs, rfl, rfl, h0, r0⟩ := trodAll_cons hA
  obtain ⟨rfl, rfl, rfl⟩ := trodAll_nil r0
  obtain rfl : args = #[v0] := by cases args; simp_all
  obtain ⟨rfl, rfl⟩ := trodVars_none hV
  obtain ⟨cs0, rfl⟩ : ∃ cs0 : Array Value, v0 = .agg cs0 := by
    have h := hval 0 82 v0 rfl rfl
    unfold Value.okWide at h
    rw [Try.underlying82] at h
    exact ⟨h.choose, h.choose_spec.1⟩
  have k0 := h0
  have lt0 : ∀ x ∈ p0, x.block < W.heap.size := by obtain ⟨m, hm⟩ := k0; exact DataW.trod_lt m _ _ _ hm
  have hrd : RdZ Try.prog W 82 cs0.toList := by obtain ⟨fuel, hf⟩ := h0; exact ⟨H, enc, 0, _, true, fuel, _, hf, by simp only [List.all_eq_true]; intro n hn; exact List.all_eq_true.1 hsz n (DataW.weights_mem_each (j := 0) rfl rfl n hn)⟩
  clear hA0 hval0
  refine (show Calls Try.prog 12 _ W (fun e W' => e = .returned (.bool true) ∧ Below W.heap.size W W') from by have := tcpBig_walk W _ hrd; rwa [Array.toArray_toList] at this).mono fun e W' ⟨he, bel⟩ => ?_
  subst he
  exact ⟨_, rfl, _, _, _, [], _, [], hW', trodAll_mk1 (shut_bool Try.underlying4 _), (trodAll_cons_mk (Below.trod laidOut (by kernel_rfl) (of_decide_eq_true (by kernel_rfl)) k0 bel lt0) trodAll_mk0), rfl, bel.frame _, fun h => by cases h⟩
theorem over : Rows.tcpBigRow.holds Try.pinned (OpenSpec.ofChange Rows.tcpBigSpec) :=
  OpenClaim.holds_of_wide 12 Try.f12 rfl rfl rfl rfl rfl rfl rfl ⟨rfl, rfl, rfl, rfl, rfl⟩ rfl rfl rfl rfl rfl (by kernel_rfl) Try.func12 (by kernel_rfl)
    (of_decide_eq_true (by kernel_rfl)) (by unfold Func.isWrapper; first | (rw [if_pos (by decide +kernel)]; kernel_rfl) | (rw [if_neg (by decide +kernel)]; exact ⟨rfl, rfl⟩))
    (fun os started H enc _ => lifted os started H enc)
/-- THE STATEMENT. -/
theorem proved : Rows.TcpBigSaid := over
end tcpBig
-- CLAIM: TcpBig tcpBig.proved
end Go.Proofs.Ytjgbiffgmafhmaa
