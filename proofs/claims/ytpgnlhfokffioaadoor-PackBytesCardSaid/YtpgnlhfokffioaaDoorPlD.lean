/-
  Packets: small laws for the statements.
  The law PackBytes: its walk.
-/
import Derived.Test.YtpgnlhfokffioaaDoorPgY
import Derived.Test.YtpgnlhfokffioaaDoorMqT
import Derived.Test.YtpgnlhfokffioaaDoorPgU
namespace Go.Proofs.YtpgnlhfokffioaaDoor
open Go.RowKit Go.Lib
theorem num18_any (n : Int) (w : World) : Calls Tryd.prog 18 #[.int .i64 n] w fun e w' => e = .returned (.int .i64 n) ∧ w = w' := by
  go_enter Tryd.func18, Tryd.ntmps18
  go_wp2
  go_ret
  exact ⟨rfl, rfl⟩
theorem parseN {w : World} {n cd : Nat} {ad : Option Addr} {l : List UInt8} {p : Mq × Nat × Int} (hn : n = l.length) (hp : paG l = p) (hs : Sl w (.slice ad n cd) l) (hl : l.length ≤ 100000) (hT : Tabs w) :
    Calls Tryd.prog 16 #[.slice ad n cd] w fun e w' => ∃ ac cc aw cw af cf, e = .returned (.tuple #[p.1.val (.slice ac p.1.cs.length cc) (.slice aw p.1.ws.length cw) (.slice af p.1.fs.length cf), .int .i64 (p.2.1 : Int), .int .i64 p.2.2]) ∧ OL3 w' w.heap.size ac cc aw cw af cf p.1 ∧ Below w.heap.size w w' := by
  subst hn hp
  exact parseG hs hl hT
theorem may_far {m : Mq} (h : mayG m = true) : m.Far := by
  have s := may_small h
  have hf : 1000 ≤ far := by decide
  exact ⟨Nat.le_trans s.cl hf, Nat.le_trans s.wT hf, Nat.le_trans s.wP hf, Nat.le_trans s.us hf, Nat.le_trans s.pa hf, Nat.le_trans s.cs (by decide), Nat.le_trans s.top hf, Nat.le_trans s.pay hf, Nat.le_trans s.ws (by decide), Nat.le_trans s.fs (by decide), fun x hx => Nat.le_trans (s.wsf x hx) hf, fun x hx => Nat.le_trans (s.fsf x hx) hf⟩
theorem ob_some {W : World} {B c : Nat} {a : Option Addr} {l : List UInt8} (h : OB W B a c l) (hl : l ≠ []) : ∃ b o, a = some ⟨b, o, none⟩ := by
  obtain ⟨ao, cap, hv, -, -, -, h4⟩ := (Sl.of_own h).1
  injection hv with e1
  obtain ⟨b, off, hb, -⟩ := h4 hl
  exact ⟨b, off, e1.trans hb⟩
theorem sl_some {W : World} {n c : Nat} {a : Option Addr} {l : List UInt8} (h : Sl W (.slice a n c) l) (hl : l ≠ []) : ∃ b o, a = some ⟨b, o, none⟩ := by
  obtain ⟨ao, cap, hv, -, -, -, h4⟩ := h
  injection hv with e1
  obtain ⟨b, off, hb, -⟩ := h4 hl
  exact ⟨b, off, e1.trans hb⟩
theorem slcA {a : Option Addr} {n c j : Nat} (h : ∃ b o, a = some ⟨b, o, none⟩) (h2 : j ≤ c) (h3 : c ≤ 9223372036854775807) (w : World) : (Instr.sliceAt 31 (.slice a n c) none (some (.int .i64 (j : Int))) none).run Tryd.prog w = .ok (.slice a j c) w := by
  obtain ⟨b, o, rfl⟩ := h
  exact run_slice1 b o n c j w h2 h3
theorem sl_pre {W : World} {n c k : Nat} {a : Option Addr} {l : List UInt8} (h : Sl W (.slice a n c) l) (ha : ∃ b o, a = some ⟨b, o, none⟩) (hk : k ≤ l.length) : Sl W (.slice a k c) (l.take k) := by
  obtain ⟨b, o, rfl⟩ := ha
  obtain ⟨rfl, -⟩ := sl_cap h
  exact h.prefix k hk
theorem en_ne (m : Mq) : enG m ≠ [] := by rw [en_eq]; exact List.cons_ne_nil _ _
theorem quo40 (n : Nat) (w : World) (h : n ≤ 1000000000) : (binOp .quo 3 (.int .i64 (n : Int)) (.int .i64 40)).run Tryd.prog w = .ok (.int .i64 ((n / 40 : Nat) : Int)) w := by
  have := wrap_i64 ((n / 40 : Nat) : Int) (by omega) (by omega)
  simp [go_sem, Int.tdiv_eq_ediv_of_nonneg (show (0 : Int) ≤ n by omega)]
  push_cast at this; exact this
theorem idxAsk (b off n cap i : Nat) (hi : i < n) (w : World) : (Instr.indexAt 22 (.slice (some ⟨b, off, none⟩) n cap) (.int .i64 (i : Int))).run Tryd.prog w = .ok (.pointer (some ⟨b, off + i * 25, none⟩)) w := by
  have h2 : ¬ n ≤ i := by omega
  simp [go_sem, Instr.indexAt, h2]
/-- What is asked at a place. -/
theorem ask_at {w : World} {a : Option Addr} {n c i : Nat} {L : List (Mq × List UInt8)} {q : Mq × List UInt8} (h : SlOf w 25 Ask18.At (.slice a n c) L) (hi : L[i]? = some q) : ∃ b o, a = some ⟨b, o, none⟩ ∧ b < w.heap.size ∧ Ask18.At w b (o + i * 25) q := by
  obtain ⟨ao, cap, e, h1, h2, h3, h4⟩ := id h
  injection e with e1 e2 e3
  obtain ⟨b, off, e4, hb, hq⟩ := h4 (by rintro rfl; simp at hi)
  exact ⟨b, off, e1.trans e4, hb, hq i q hi⟩
theorem ask_len {w : World} {a : Option Addr} {n c : Nat} {L : List (Mq × List UInt8)} (h : SlOf w 25 Ask18.At (.slice a n c) L) : n = L.length := by
  obtain ⟨ao, cap, e, -⟩ := h
  injection e with e1 e2 e3
theorem mq_same {m : Mq} : m.eqB m = true := eqB_refl m
/-- A block in which none of a packet's lists lies. -/
def O3N (ac : Option Addr) (cc : Nat) (aw : Option Addr) (cw : Nat) (af : Option Addr) (cf : Nat) (m : Mq) (q : Nat) : Prop := (∀ k, (Value.slice ac m.cs.length cc).ownBlock = some k → k ≠ q) ∧ (∀ k, (Value.slice aw m.ws.length cw).ownBlock = some k → k ≠ q) ∧ (∀ k, (Value.slice af m.fs.length cf).ownBlock = some k → k ≠ q)
theorem OL3.ltq {W : World} {B q : Nat} {ac aw af : Option Addr} {cc cw cf : Nat} {m : Mq} (h : OL3 W B ac cc aw cw af cf m) (hq : W.heap.size ≤ q) : O3N ac cc aw cw af cf m q := ⟨fun k hk e => by have := (blk_lt h.c hk).2; omega, fun k hk e => by have := (blk_lt h.w hk).2; omega, fun k hk e => by have := (blk_lt h.f hk).2; omega⟩
theorem OL3.chgN {W W' : World} {B q : Nat} {ac aw af : Option Addr} {cc cw cf : Nat} {m : Mq} (h : OL3 W B ac cc aw cw af cf m) (s : W.grownBy W' (some q)) (hn : O3N ac cc aw cw af cf m q) : OL3 W' B ac cc aw cw af cf m := ⟨olC_chg h.c s hn.1, olW_chg h.w s hn.2.1, olF_chg h.f s hn.2.2⟩
theorem ol_app {W W' : World} {B B1 c : Nat} {a ac aw af : Option Addr} {cc cw cf : Nat} {l : List UInt8} {v' : Value} {m : Mq} (h : OL3 W B1 ac cc aw cw af cf m) (hg : Grew W W' (.slice a l.length c) v') (ho : OB W B a c l) (h1 : ∀ k, (Value.slice ac m.cs.length cc).ownBlock = some k → k < B) (h2 : ∀ k, (Value.slice aw m.ws.length cw).ownBlock = some k → k < B) (h3 : ∀ k, (Value.slice af m.fs.length cf).ownBlock = some k → k < B) : OL3 W' B1 ac cc aw cw af cf m :=
  ⟨own_stay h.c hg.1 (fun k hk e => by have h4 := h1 k hk; have h5 := (blk_lt ho e.symm).1; omega), own_stay h.w hg.1 (fun k hk e => by have h4 := h2 k hk; have h5 := (blk_lt ho e.symm).1; omega), own_stay h.f hg.1 (fun k hk e => by have h4 := h3 k hk; have h5 := (blk_lt ho e.symm).1; omega)⟩
theorem ldSl {W : World} {b o : Nat} {v : Value} (h : W.cell? ⟨b, o, none⟩ = some v) : (Instr.loadAt 31 (.pointer (some ⟨b, o, none⟩))).run Tryd.prog W = .ok v W := by simp [go_sem, Instr.loadAt, h]
theorem en12 : enG (zM 12) = [192, 0] := by decide +kernel
theorem hm12 : mayG (zM 12) = true := by
  unfold mayG; rw [Bool.and_eq_true]; exact ⟨rfl, by decide +kernel⟩
set_option maxRecDepth 100000 in
set_option maxHeartbeats 4000000 in
theorem wakesG {w : World} (hT : Tabs w) :
    Calls Tryd.prog 22 #[] w fun e w' => e = .returned (.bool true) ∧ Below w.heap.size w w' := by
  have hb0 := Below.refl w.heap.size w
  refine fw_en 16 [] Tryd.func22 rfl Tryd.ntmps22 rfl trivial ?_
  refine fw_sq ?_
  refine fw_rg rfl ?_
  refine fw_pu rfl ?_
  refine fw_dt ?_
  refine fw_sq ?_
  refine fw_rg rfl ?_
  refine fw_ex 4 (.agg #[.int .i64 12, .string { data := #[] }, .bool false, .int .i64 0, .bool false, .string { data := #[] }, .string { data := #[] }, .int .i64 0, .bool false, .string { data := #[] }, .bool false, .string { data := #[] }, .bool false, .bool false, .int .i64 0, .slice none 0 0, .bool false, .int .i64 0, .bool false, .string { data := #[] }, .int .i64 0, .string { data := #[] }, .slice none 0 0, .slice none 0 0]) rfl rfl rfl (fun a h => (run_buildOp (bp1 (h.ev rfl)) (by first | kernel_rfl | rfl))) ?_
  refine fw_ca Tryd.func24 rfl rfl rfl ((bytesOk (zM 12) none none none _ _ _ 0 0 0 w ⟨nilL _ _, nilL _ _, nilL _ _⟩ (zM_far 12) (hT.below hb0) hm12)) ?_
  rintro _ VB ⟨_, aB, cB, rfl, rfl, hnB, hoB, hbB⟩
  refine ⟨_, rfl, ?_⟩
  have b1 := hb0.trans (hbB.mono hb0.size)
  iterate 5 refine fw_pu rfl ?_
  refine fw_dt ?_
  refine fw_sq ?_
  refine fw_rg rfl ?_
  refine fw_pu rfl ?_
  refine fw_ca Tryd.func18 rfl rfl rfl ((num18_any 0 VB)) ?_
  rintro _ _ ⟨rfl, rfl⟩
  refine ⟨(.int .i64 0), rfl, ?_⟩
  iterate 3 refine fw_pu rfl ?_
  refine fw_al (t := 5) (u := fun q => .slice (some ⟨q, 0, none⟩) 2 2) 13 [(B8 192), (B8 0)] rfl rfl rfl (fun a h => (bs8_2 _ (h.ev rfl) (h.ev rfl))) ?_
  intro q2 W3 g6 s4 r5
  have := Nat.le_trans b1.size g6
  have b7 := b1.trans (s4.mono b1.size)
  have f8 := (below_own hoB s4)
  refine fw_ca Tryd.func20 rfl rfl rfl ((eqBytes_any _ _ (enG (zM 12)) [192, 0] W3 (by decide +kernel) (by decide) (Sl.of_own f8).1 (slBB _ _ 192 0 r5)).mono fun e X h => (show e = .returned (.bool true) ∧ Below W3.heap.size W3 X from ⟨h.1.trans (by rw [en12]; rfl), by obtain ⟨m, rfl⟩ := h.2; exact bdrew (Below.refl _ _) m⟩)) ?_
  rintro _ VE ⟨rfl, hbE⟩
  refine ⟨(.bool true), rfl, ?_⟩
  have b9 := b7.trans (hbE.mono b7.size)
  have r10 := r5.below hbE
  have f11 := (below_own f8 hbE)
  iterate 2 refine fw_pu rfl ?_
  refine fw_dt ?_
  refine fw_rt ?_
  refine ⟨fun a h => ?_⟩
  exact ow_ret1 rfl h.df (h.g 0 rfl) ⟨rfl, b9⟩
theorem own_ol3 {W : World} {B : Nat} {m : Mq} {ac aw af : Option Addr} {cc cw cf : Nat} (h : MqOwn W B m (.slice ac m.cs.length cc) (.slice aw m.ws.length cw) (.slice af m.fs.length cf)) : OL3 W B ac cc aw cw af cf m :=
  ⟨by have h1 := h.c; rw [← flatNumbers] at h1; exact h1, h.w, by have h1 := h.f; rw [← flatStrings] at h1; exact h1⟩
set_option maxRecDepth 100000 in
set_option maxHeartbeats 4000000 in
theorem packBytes_any (aS : Option Addr) (nS cS : Nat) (L : List (Mq × List UInt8)) (w : World) (hS : SlOf w 25 Ask18.At (.slice aS nS cS) L) (hLl : L.length ≤ far) (hT : Tabs w) :
    Calls Tryd.prog 4 #[.slice aS nS cS] w fun e w' => e = .returned (.bool true) ∧ Below w.heap.size w w' := by
  have hLl0 : L.length ≤ 140737488351232 := hLl
  obtain rfl : nS = L.length := ask_len hS
  have hb0 := Below.refl w.heap.size w
  refine fw_en 86 [(0, .slice aS L.length cS)] Tryd.func4 rfl Tryd.ntmps4 rfl ⟨rfl, trivial⟩ ?_
  refine fw_sq ?_
  refine fw_rg rfl ?_
  refine fw_pu rfl ?_
  refine fw_dt ?_
  refine fw_sq ?_
  refine fw_sq ?_
  refine fw_rg rfl ?_
  refine fw_pu rfl ?_
  refine fw_dt ?_
  refine fw_bk ?_
  refine fw_lp (fun N K W => ∃ (i : Nat), N = L.length - i ∧ i ≤ L.length ∧ K = [(0, .slice aS L.length cS), (3, .int .i64 ((i : Nat) : Int))] ∧ Below w.heap.size w W) _ _ ⟨0, rfl, Nat.zero_le _, rfl, hb0⟩ ⟨rfl, (by first | rfl | (simp only [Look, cond, Nat.beq]; first | rfl | (congr 2; first | rfl | omega | (push_cast; omega)) | (simp; try omega))), trivial⟩ ?_
  rintro N _ W1 ⟨i, rfl, hil, rfl, bW1⟩
  intro K3 hK3
  refine fw_sq ?_
  refine fw_sq ?_
  refine fw_rg rfl ?_
  iterate 5 refine fw_pu rfl ?_
  rcases Bool.eq_false_or_eq_true ((decide (((i : Nat) : Int) < ((L.length : Nat) : Int)))) with hb_4 | hb_4
  · skip
    refine fw_kn 12 rfl hb_4 ?_
    iterate 3 refine fw_pu rfl ?_
    refine fw_dt ?_
    rcases Bool.eq_false_or_eq_true ((decide (((i : Nat) : Int) < 10))) with hb_5 | hb_5
    · skip
      refine fw_cT rfl hb_5 ?_
      refine fw_sk ?_
      refine fw_th ?_
      refine fw_sq ?_
      refine fw_bk ?_
      refine fw_sq ?_
      refine fw_sq ?_
      have hiL : i < L.length := by have h := of_decide_eq_true hb_4; omega
      obtain ⟨⟨m, xs⟩, hmx⟩ : ∃ p, L[i]? = some p := ⟨_, List.getElem?_eq_getElem hiL⟩
      obtain ⟨bP, oP, haP, hbP, hAt⟩ := ask_at hS hmx
      obtain ⟨vc, vw, vf, vx, hcP, hL, hX, hF, hxf⟩ := hAt
      dsimp only at hcP hL hX hF hxf
      obtain ⟨ac, nc, cc, aw, nw, cw, af, nf, cf, rfl, rfl, rfl⟩ := lists_open hL
      obtain ⟨ax, nx, cx, rfl⟩ : ∃ ax nx cx, vx = .slice ax nx cx := by obtain ⟨p, q, e, -⟩ := hX; exact ⟨_, _, _, e⟩
      have hcx := sl_cap hX
      obtain rfl : nc = m.cs.length := by have := slR_len hL.c; simpa using this
      obtain rfl : nw = m.ws.length := by have := slR_len hL.w; simpa using this
      obtain rfl : nf = m.fs.length := by have := slR_len hL.f; simpa using this
      obtain rfl : nx = xs.length := hcx.1
      refine fw_rg rfl ?_
      iterate 2 refine fw_pu rfl ?_
      refine fw_ex 20 (.pointer (some ⟨bP, (oP + i * 25), none⟩)) rfl rfl rfl (fun a h => (run_indexOp (h.ev rfl) (h.ev rfl) (by rw [haP]; exact idxAsk _ _ _ _ _ (by have := ask_len hS; omega) _))) ?_
      refine fw_ex 21 (.agg (Mq.row m (.slice ac m.cs.length cc) (.slice aw m.ws.length cw) (.slice af m.fs.length cf) ++ [(.slice ax xs.length cx : Value)]).toArray) rfl rfl rfl (fun a h => (run_loadOp (h.ev rfl) (run_loadAt_mid _ bP _ _ [.int .i64 m.k, .string m.cl, .bool m.clean, .int .i64 m.keep, .bool m.wI, .string m.wT, .string m.wP, .int .i64 m.wQ, .bool m.wR, .string m.us, .bool m.hu, .string m.pa, .bool m.hp, .bool m.pres, .int .i64 m.code, .slice ac m.cs.length cc, .bool m.dup, .int .i64 m.q, .bool m.re, .string m.top, .int .i64 m.id, .string m.pay, .slice aw m.ws.length cw, .slice af m.fs.length cf, .slice ax xs.length cx] _ (fun j u hj => (Below.cell bW1 (p := ⟨bP, oP + i * 25 + j, none⟩) hbP).trans (hcP j u hj)) Tryd.underlying33 rfl (by kernel_rfl)))) ?_
      refine fw_ca Tryd.func14 rfl rfl rfl ((heavy_any m ac aw af ax _ _ _ _ cc cw cf cx W1 hF (hL.below bW1))) ?_
      rintro _ V7 ⟨bH, rfl, hbH, hnear⟩
      refine ⟨(.bool bH), rfl, ?_⟩
      have b8 := bW1.trans (hbH.mono bW1.size)
      refine fw_dt ?_
      rcases Bool.eq_false_or_eq_true (bH) with hb_9 | hb_9
      · skip
        refine fw_cT rfl hb_9 ?_
        refine fw_sq ?_
        refine fw_rg rfl ?_
        refine fw_pu rfl ?_
        refine fw_dt ?_
        refine fw_rt ?_
        refine fw_tr ?_
        refine fw_br ?_
        iterate 2 refine fw_tr ?_
        refine fw_br ?_
        refine fw_tr ?_
        refine ⟨fun a h => ?_⟩
        exact ow_ret1 rfl h.df (h.g 2 rfl) ⟨rfl, b8⟩
      refine fw_cF rfl hb_9 ?_
      refine fw_sk ?_
      refine fw_th ?_
      refine fw_sq ?_
      obtain ⟨hN3, hx3⟩ := hnear hb_9
      have hNc := hN3.cs
      have hNw := hN3.ws
      have hNf := hN3.fs
      refine fw_rg rfl ?_
      iterate 2 refine fw_pu rfl ?_
      refine fw_ex 25 (.pointer (some ⟨bP, (oP + i * 25), none⟩)) rfl rfl rfl (fun a h => (run_indexOp (h.ev rfl) (h.ev rfl) (by rw [haP]; exact idxAsk _ _ _ _ _ (by have := ask_len hS; omega) _))) ?_
      refine fw_pu rfl ?_
      refine fw_ex 27 (.agg (Mq.row m (.slice ac m.cs.length cc) (.slice aw m.ws.length cw) (.slice af m.fs.length cf)).toArray) rfl rfl rfl (fun a h => (run_loadOp (h.ev rfl) (run_loadAt_mid _ bP _ _ [.int .i64 m.k, .string m.cl, .bool m.clean, .int .i64 m.keep, .bool m.wI, .string m.wT, .string m.wP, .int .i64 m.wQ, .bool m.wR, .string m.us, .bool m.hu, .string m.pa, .bool m.hp, .bool m.pres, .int .i64 m.code, .slice ac m.cs.length cc, .bool m.dup, .int .i64 m.q, .bool m.re, .string m.top, .int .i64 m.id, .string m.pay, .slice aw m.ws.length cw, .slice af m.fs.length cf] _ (fun j u hj => (Below.cell b8 (p := ⟨bP, oP + i * 25 + j, none⟩) hbP).trans (hcP j u (by rw [List.getElem?_append_left (by have := (List.getElem?_eq_some_iff.1 hj).1; exact this)]; exact hj))) Tryd.underlying30 rfl (by kernel_rfl)))) ?_
      refine fw_ca Tryd.func23 rfl rfl rfl ((copyMq_any m _ _ _ V7 (hL.below b8) (by omega) (by omega) (by omega))) ?_
      rintro _ V10 ⟨_, _, _, rfl, hbQ, hoQ⟩
      refine ⟨_, rfl, ?_⟩
      obtain ⟨acq, ccq, awq, cwq, afq, cfq, rfl, rfl, rfl⟩ := hoQ.slices
      have hOq := own_ol3 hoQ
      have b11 := b8.trans (hbQ.mono b8.size)
      refine fw_al (t := 30) (u := fun q => .pointer (some ⟨q, 0, none⟩)) 4 [.int .i64 0, .string { data := #[] }, .bool false, .int .i64 0, .bool false, .string { data := #[] }, .string { data := #[] }, .int .i64 0, .bool false, .string { data := #[] }, .bool false, .string { data := #[] }, .bool false, .bool false, .int .i64 0, .slice none 0 0, .bool false, .int .i64 0, .bool false, .string { data := #[] }, .int .i64 0, .string { data := #[] }, .slice none 0 0, .slice none 0 0] rfl rfl rfl (fun a h => (run_allocOp (by simp [go_sem, Instr.alloc]))) ?_
      intro q12 W13 g16 s14 r15
      have := Nat.le_trans b11.size g16
      have hhOq_q12 := OL3.ltq hOq g16
      have b17 := b11.trans (s14.mono b11.size)
      have f18 := (hOq.below s14)
      refine fw_st r15 rfl rfl ?_
      intro W19 s20 r21
      have b22 := below_chg b17 s20 (by omega) b17.size
      have f23 := (by first | exact OL3.chgN f18 s20 hhOq_q12 | exact OL3.chg f18 s20 (by omega))
      refine fw_dt ?_
      refine fw_sq ?_
      rcases Bool.eq_false_or_eq_true ((mayG m)) with hb_24 | hb_24
      · skip
        refine fw_rg rfl ?_
        refine fw_ld r21 rfl rfl ?_
        refine fw_ca Tryd.func24 rfl rfl rfl ((bytesOk m _ _ _ _ _ _ _ _ _ W19 (OL3.lists f23) hF (hT.below b22) hb_24)) ?_
        rintro _ V25 ⟨_, aB, cB, rfl, rfl, hnB, hoB, hbB⟩
        refine ⟨_, rfl, ?_⟩
        have b26 := b22.trans (hbB.mono b22.size)
        have r27 := r21.below hbB
        have f28 := (f23.below hbB)
        iterate 5 refine fw_pu rfl ?_
        refine fw_dt ?_
        refine fw_sq ?_
        have heL := (en_len hb_24).2
        refine fw_rg rfl ?_
        refine fw_pu rfl ?_
        refine fw_dt ?_
        refine fw_sq ?_
        refine fw_sq ?_
        refine fw_rg rfl ?_
        iterate 2 refine fw_pu rfl ?_
        refine fw_ex 36 (.pointer (some ⟨bP, (oP + i * 25), none⟩)) rfl rfl rfl (fun a h => (run_indexOp (h.ev rfl) (h.ev rfl) (by rw [haP]; exact idxAsk _ _ _ _ _ (by have := ask_len hS; omega) _))) ?_
        refine fw_pu rfl ?_
        refine fw_ex 38 (.agg (Mq.row m (.slice ac m.cs.length cc) (.slice aw m.ws.length cw) (.slice af m.fs.length cf)).toArray) rfl rfl rfl (fun a h => (run_loadOp (h.ev rfl) (run_loadAt_mid _ bP _ _ [.int .i64 m.k, .string m.cl, .bool m.clean, .int .i64 m.keep, .bool m.wI, .string m.wT, .string m.wP, .int .i64 m.wQ, .bool m.wR, .string m.us, .bool m.hu, .string m.pa, .bool m.hp, .bool m.pres, .int .i64 m.code, .slice ac m.cs.length cc, .bool m.dup, .int .i64 m.q, .bool m.re, .string m.top, .int .i64 m.id, .string m.pay, .slice aw m.ws.length cw, .slice af m.fs.length cf] _ (fun j u hj => (Below.cell b26 (p := ⟨bP, oP + i * 25 + j, none⟩) hbP).trans (hcP j u (by rw [List.getElem?_append_left (by have := (List.getElem?_eq_some_iff.1 hj).1; exact this)]; exact hj))) Tryd.underlying30 rfl (by kernel_rfl)))) ?_
        refine fw_ca Tryd.func25 rfl rfl rfl ((by have h := mayX m ac aw af _ _ _ cc cw cf V25 (hL.below b26) hF ⟨by omega, by omega, by omega⟩ (hT.below b26); rw [mx_va, show (vaG m && baG m) = true from hb_24] at h; exact h)) ?_
        rintro _ V30 ⟨rfl, hb29⟩
        refine ⟨(.bool true), rfl, ?_⟩
        have b31 := b26.trans (hb29.mono b26.size)
        have r32 := r27.below hb29
        have f33 := (f28.below hb29)
        have f34 := (below_own hoB hb29)
        refine fw_dt ?_
        refine fw_cT rfl rfl ?_
        refine fw_rg rfl ?_
        refine fw_pu rfl ?_
        refine fw_dt ?_
        refine fw_sq ?_
        refine fw_hr (fun X => Below w.heap.size w X ∧ RowAt X q12 (Mq.row m (.slice acq m.cs.length ccq) (.slice awq m.ws.length cwq) (.slice afq m.fs.length cfq))) (by kernel_rfl) 45 rfl ?_
        intro W35 s36
        have b37 := b31.trans (s36.mono b31.size)
        have r38 := r32.below s36
        have f39 := (f33.below s36)
        have f40 := (below_own f34 s36)
        refine ⟨⟨b37, r38⟩, ?_⟩
        refine fw_tl 0 (fun _ h => h.2) rfl rfl rfl (by kernel_rfl) (fun _ _ _ _ _ h => h) ?_
        refine fw_tk 3 rfl rfl (by kernel_rfl) (fun _ _ _ _ _ h => h) ?_
        refine fw_o1 1 (by kernel_rfl) ?_
        refine fw_oc rfl Tryd.func26 rfl rfl rfl ((by have h := checkG m acq awq afq _ _ _ ccq cwq cfq W35 (OL3.lists f39) hF (hT.below b37); rw [if_pos hb_24] at h; exact h)) ?_
        rintro _ V42 ⟨rfl, hb41⟩
        refine ⟨(.int .i64 0), rfl, ?_⟩
        have b43 := b37.trans (hb41.mono b37.size)
        have r44 := r38.below hb41
        have f45 := (f39.below hb41)
        have f46 := (below_own f40 hb41)
        refine ⟨⟨b43, r44⟩, ?_⟩
        refine fw_o1 2 (by kernel_rfl) ?_
        refine fw_oc rfl Tryd.func18 rfl rfl rfl ((num18_any 0 V42)) ?_
        rintro _ _ ⟨rfl, rfl⟩
        refine ⟨(.int .i64 0), rfl, ?_⟩
        refine ⟨⟨b43, r44⟩, ?_⟩
        refine fw_tk 4 rfl rfl (by kernel_rfl) (fun _ _ _ _ _ h => h) ?_
        refine fw_tk 5 rfl rfl (by kernel_rfl) (fun _ _ _ _ _ h => h) ?_
        refine fw_tk 6 rfl rfl (by kernel_rfl) (fun _ _ _ _ _ h => h) ?_
        refine fw_tk 8 rfl rfl (by kernel_rfl) (fun _ _ _ _ _ h => h) ?_
        refine fw_o1 7 (by kernel_rfl) ?_
        refine fw_oc rfl Tryd.func18 rfl rfl rfl ((num18_any 0 V42)) ?_
        rintro _ _ ⟨rfl, rfl⟩
        refine ⟨(.int .i64 0), rfl, ?_⟩
        refine ⟨⟨b43, r44⟩, ?_⟩
        refine fw_tk 9 rfl rfl (by kernel_rfl) (fun _ _ _ _ _ h => h) ?_
        refine fw_tk 10 rfl rfl (by kernel_rfl) (fun _ _ _ _ _ h => h) ?_
        refine fw_tk 11 rfl rfl (by kernel_rfl) (fun _ _ _ _ _ h => h) ?_
        refine fw_tk 12 rfl rfl (by kernel_rfl) (fun _ _ _ _ _ h => h) ?_
        refine fw_tk 13 rfl rfl (by kernel_rfl) (fun _ _ _ _ _ h => h) ?_
        refine fw_tk 14 rfl rfl (by kernel_rfl) (fun _ _ _ _ _ h => h) ?_
        refine fw_tk 15 rfl rfl (by kernel_rfl) (fun _ _ _ _ _ h => h) ?_
        refine fw_tk 16 rfl rfl (by kernel_rfl) (fun _ _ _ _ _ h => h) ?_
        refine fw_tk 17 rfl rfl (by kernel_rfl) (fun _ _ _ _ _ h => h) ?_
        refine fw_tk 18 rfl rfl (by kernel_rfl) (fun _ _ _ _ _ h => h) ?_
        refine fw_tk 19 rfl rfl (by kernel_rfl) (fun _ _ _ _ _ h => h) ?_
        refine fw_tk 20 rfl rfl (by kernel_rfl) (fun _ _ _ _ _ h => h) ?_
        refine fw_tk 21 rfl rfl (by kernel_rfl) (fun _ _ _ _ _ h => h) ?_
        refine fw_tk 22 rfl rfl (by kernel_rfl) (fun _ _ _ _ _ h => h) ?_
        refine fw_tk 23 rfl rfl (by kernel_rfl) (fun _ _ _ _ _ h => h) ?_
        refine fw_tk 24 rfl rfl (by kernel_rfl) (fun _ _ _ _ _ h => h) ?_
        refine fw_tk 25 rfl rfl (by kernel_rfl) (fun _ _ _ _ _ h => h) ?_
        refine fw_tk 26 rfl rfl (by kernel_rfl) (fun _ _ _ _ _ h => h) ?_
        refine fw_tx 27 67 (.pointer (some ⟨bP, (oP + i * 25), none⟩)) rfl rfl rfl rfl (fun a h W hW => by obtain ⟨b43, r44⟩ := hW; exact (run_indexOp (h.ev rfl) (h.ev rfl) (by rw [haP]; exact idxAsk _ _ _ _ _ (by have := ask_len hS; omega) _))) (by kernel_rfl) (fun _ _ _ _ _ h => h) ?_
        refine fw_tk 28 rfl rfl (by kernel_rfl) (fun _ _ _ _ _ h => h) ?_
        refine fw_tx 29 69 (.agg (Mq.row m (.slice ac m.cs.length cc) (.slice aw m.ws.length cw) (.slice af m.fs.length cf)).toArray) rfl rfl rfl rfl (fun a h W hW => by obtain ⟨b43, r44⟩ := hW; exact (run_loadOp (h.ev rfl) (run_loadAt_mid _ bP _ _ [.int .i64 m.k, .string m.cl, .bool m.clean, .int .i64 m.keep, .bool m.wI, .string m.wT, .string m.wP, .int .i64 m.wQ, .bool m.wR, .string m.us, .bool m.hu, .string m.pa, .bool m.hp, .bool m.pres, .int .i64 m.code, .slice ac m.cs.length cc, .bool m.dup, .int .i64 m.q, .bool m.re, .string m.top, .int .i64 m.id, .string m.pay, .slice aw m.ws.length cw, .slice af m.fs.length cf] _ (fun j u hj => (Below.cell b43 (p := ⟨bP, oP + i * 25 + j, none⟩) hbP).trans (hcP j u (by rw [List.getElem?_append_left (by have := (List.getElem?_eq_some_iff.1 hj).1; exact this)]; exact hj))) Tryd.underlying30 rfl (by kernel_rfl)))) (by kernel_rfl) (fun _ _ _ _ _ h => h) ?_
        refine fw_o1 30 (by kernel_rfl) ?_
        refine fw_oc rfl Tryd.func27 rfl rfl rfl ((rbytesX m ac aw af _ _ _ cc cw cf V42 (hL.below b43) (may_small hb_24) hb_24)) ?_
        rintro _ V47 ⟨_, aR, cR, rfl, rfl, hoR, hbR⟩
        refine ⟨_, rfl, ?_⟩
        have b48 := b43.trans (hbR.mono b43.size)
        have r49 := r44.below hbR
        have f50 := (f45.below hbR)
        have f51 := (below_own f46 hbR)
        refine ⟨⟨b48, r49⟩, ?_⟩
        refine fw_o1 31 (by kernel_rfl) ?_
        refine fw_oc rfl Tryd.func20 rfl rfl rfl ((eqBytes_any _ _ (enG m) (enG m) V47 (by omega) (by omega) (Sl.of_own f51).1 (Sl.of_own hoR).1).mono fun e X h => (show e = .returned (.bool true) ∧ Below V47.heap.size V47 X from ⟨h.1.trans (by simp), by obtain ⟨m, rfl⟩ := h.2; exact bdrew (Below.refl _ _) m⟩)) ?_
        rintro _ V53 ⟨rfl, hb52⟩
        refine ⟨(.bool true), rfl, ?_⟩
        have b54 := b48.trans (hb52.mono b48.size)
        have r55 := r49.below hb52
        have f56 := (f50.below hb52)
        have f57 := (below_own f51 hb52)
        have f58 := (below_own hoR hb52)
        refine ⟨⟨b54, r55⟩, ?_⟩
        refine fw_tk 32 rfl rfl (by kernel_rfl) (fun _ _ _ _ _ h => h) ?_
        refine fw_tk 33 rfl rfl (by kernel_rfl) (fun _ _ _ _ _ h => h) ?_
        refine fw_tk 34 rfl rfl (by kernel_rfl) (fun _ _ _ _ _ h => h) ?_
        refine fw_tk 35 rfl rfl (by kernel_rfl) (fun _ _ _ _ _ h => h) ?_
        refine fw_tl 36 (fun _ h => h.2) rfl rfl rfl (by kernel_rfl) (fun _ _ _ _ _ h => h) ?_
        refine fw_tk 37 rfl rfl (by kernel_rfl) (fun _ _ _ _ _ h => h) ?_
        refine fw_tk 38 rfl rfl (by kernel_rfl) (fun _ _ _ _ _ h => h) ?_
        refine fw_tx 39 79 (.pointer (some ⟨bP, (oP + i * 25), none⟩)) rfl rfl rfl rfl (fun a h W hW => by obtain ⟨b54, r55⟩ := hW; exact (run_indexOp (h.ev rfl) (h.ev rfl) (by rw [haP]; exact idxAsk _ _ _ _ _ (by have := ask_len hS; omega) _))) (by kernel_rfl) (fun _ _ _ _ _ h => h) ?_
        refine fw_tk 40 rfl rfl (by kernel_rfl) (fun _ _ _ _ _ h => h) ?_
        refine fw_tx 41 81 (.agg (Mq.row m (.slice ac m.cs.length cc) (.slice aw m.ws.length cw) (.slice af m.fs.length cf)).toArray) rfl rfl rfl rfl (fun a h W hW => by obtain ⟨b54, r55⟩ := hW; exact (run_loadOp (h.ev rfl) (run_loadAt_mid _ bP _ _ [.int .i64 m.k, .string m.cl, .bool m.clean, .int .i64 m.keep, .bool m.wI, .string m.wT, .string m.wP, .int .i64 m.wQ, .bool m.wR, .string m.us, .bool m.hu, .string m.pa, .bool m.hp, .bool m.pres, .int .i64 m.code, .slice ac m.cs.length cc, .bool m.dup, .int .i64 m.q, .bool m.re, .string m.top, .int .i64 m.id, .string m.pay, .slice aw m.ws.length cw, .slice af m.fs.length cf] _ (fun j u hj => (Below.cell b54 (p := ⟨bP, oP + i * 25 + j, none⟩) hbP).trans (hcP j u (by rw [List.getElem?_append_left (by have := (List.getElem?_eq_some_iff.1 hj).1; exact this)]; exact hj))) Tryd.underlying30 rfl (by kernel_rfl)))) (by kernel_rfl) (fun _ _ _ _ _ h => h) ?_
        refine fw_o1 42 (by kernel_rfl) ?_
        refine fw_oc rfl Tryd.func19 rfl rfl rfl ((by have h := eqMq_any m m _ _ _ _ _ _ V53 (OL3.lists f56) (hL.below b54) (by omega) (by omega) (by omega) (by omega) (by omega) (by omega); rw [eqB_refl m] at h; exact h)) ?_
        rintro _ V60 ⟨rfl, hb59⟩
        refine ⟨(.bool true), rfl, ?_⟩
        have b61 := b54.trans (hb59.mono b54.size)
        have r62 := r55.below hb59
        have f63 := (f56.below hb59)
        have f64 := (below_own f57 hb59)
        have f65 := (below_own f58 hb59)
        refine ⟨⟨b61, r62⟩, ?_⟩
        refine fw_tk 43 rfl rfl (by kernel_rfl) (fun _ _ _ _ _ h => h) ?_
        refine fw_tk 44 rfl rfl (by kernel_rfl) (fun _ _ _ _ _ h => h) ?_
        refine fw_ht (by kernel_rfl) ?_
        refine fw_cF rfl rfl ?_
        refine fw_sk ?_
        refine fw_bn ?_
        refine fw_th ?_
        refine fw_rg rfl ?_
        refine fw_pu rfl ?_
        refine fw_ex 17 (.int .i64 (((i + 1) : Nat) : Int)) rfl rfl rfl (fun a h => (run_binOp (h.ev rfl) (h.ev rfl) (by simp [go_sem]) (addIw _ _ _ _ (by omega) (by omega) (by omega)))) ?_
        refine fw_pu rfl ?_
        refine fw_dn ?_
        exact fw_th (fw_gf (hK3 _ _ _ (by omega) ⟨(i + 1), rfl, (by omega), rfl, b61⟩) ⟨rfl, (by first | rfl | (simp only [Look, cond, Nat.beq]; first | rfl | (congr 2; first | rfl | omega | (push_cast; omega)) | (simp; try omega))), trivial⟩)
      refine fw_rg rfl ?_
      refine fw_ld r21 rfl rfl ?_
      refine fw_ca Tryd.func24 rfl rfl rfl ((bytesNo m _ _ _ _ _ _ _ _ _ W19 (OL3.lists f23) hF (hT.below b22) hb_24)) ?_
      rintro _ V66 ⟨rfl, hbB⟩
      refine ⟨_, rfl, ?_⟩
      have b67 := b22.trans (hbB.mono b22.size)
      have r68 := r21.below hbB
      have f69 := (f23.below hbB)
      iterate 5 refine fw_pu rfl ?_
      refine fw_dt ?_
      refine fw_sq ?_
      refine fw_rg rfl ?_
      refine fw_pu rfl ?_
      refine fw_dt ?_
      refine fw_sq ?_
      refine fw_sq ?_
      refine fw_rg rfl ?_
      iterate 2 refine fw_pu rfl ?_
      refine fw_ex 36 (.pointer (some ⟨bP, (oP + i * 25), none⟩)) rfl rfl rfl (fun a h => (run_indexOp (h.ev rfl) (h.ev rfl) (by rw [haP]; exact idxAsk _ _ _ _ _ (by have := ask_len hS; omega) _))) ?_
      refine fw_pu rfl ?_
      refine fw_ex 38 (.agg (Mq.row m (.slice ac m.cs.length cc) (.slice aw m.ws.length cw) (.slice af m.fs.length cf)).toArray) rfl rfl rfl (fun a h => (run_loadOp (h.ev rfl) (run_loadAt_mid _ bP _ _ [.int .i64 m.k, .string m.cl, .bool m.clean, .int .i64 m.keep, .bool m.wI, .string m.wT, .string m.wP, .int .i64 m.wQ, .bool m.wR, .string m.us, .bool m.hu, .string m.pa, .bool m.hp, .bool m.pres, .int .i64 m.code, .slice ac m.cs.length cc, .bool m.dup, .int .i64 m.q, .bool m.re, .string m.top, .int .i64 m.id, .string m.pay, .slice aw m.ws.length cw, .slice af m.fs.length cf] _ (fun j u hj => (Below.cell b67 (p := ⟨bP, oP + i * 25 + j, none⟩) hbP).trans (hcP j u (by rw [List.getElem?_append_left (by have := (List.getElem?_eq_some_iff.1 hj).1; exact this)]; exact hj))) Tryd.underlying30 rfl (by kernel_rfl)))) ?_
      refine fw_ca Tryd.func25 rfl rfl rfl ((by have h := mayX m ac aw af _ _ _ cc cw cf V66 (hL.below b67) hF ⟨by omega, by omega, by omega⟩ (hT.below b67); rw [mx_va, show (vaG m && baG m) = false from hb_24] at h; exact h)) ?_
      rintro _ V71 ⟨rfl, hb70⟩
      refine ⟨(.bool false), rfl, ?_⟩
      have b72 := b67.trans (hb70.mono b67.size)
      have r73 := r68.below hb70
      have f74 := (f69.below hb70)
      refine fw_dt ?_
      refine fw_cF rfl rfl ?_
      refine fw_sk ?_
      refine fw_th ?_
      refine fw_sq ?_
      refine fw_hr (fun X => Below w.heap.size w X ∧ RowAt X q12 (Mq.row m (.slice acq m.cs.length ccq) (.slice awq m.ws.length cwq) (.slice afq m.fs.length cfq))) (by kernel_rfl) 45 rfl ?_
      intro W75 s76
      have b77 := b72.trans (s76.mono b72.size)
      have r78 := r73.below s76
      have f79 := (f74.below s76)
      refine ⟨⟨b77, r78⟩, ?_⟩
      refine fw_tl 0 (fun _ h => h.2) rfl rfl rfl (by kernel_rfl) (fun _ _ _ _ _ h => h) ?_
      refine fw_tk 3 rfl rfl (by kernel_rfl) (fun _ _ _ _ _ h => h) ?_
      refine fw_o1 1 (by kernel_rfl) ?_
      refine fw_oc rfl Tryd.func26 rfl rfl rfl ((by have h := checkG m acq awq afq _ _ _ ccq cwq cfq W75 (OL3.lists f79) hF (hT.below b77); rw [if_neg (by rw [hb_24]; simp)] at h; exact h)) ?_
      rintro _ V81 ⟨rfl, hb80⟩
      refine ⟨(.int .i64 1), rfl, ?_⟩
      have b82 := b77.trans (hb80.mono b77.size)
      have r83 := r78.below hb80
      have f84 := (f79.below hb80)
      refine ⟨⟨b82, r83⟩, ?_⟩
      refine fw_o1 2 (by kernel_rfl) ?_
      refine fw_oc rfl Tryd.func18 rfl rfl rfl ((num18_any 1 V81)) ?_
      rintro _ _ ⟨rfl, rfl⟩
      refine ⟨(.int .i64 1), rfl, ?_⟩
      refine ⟨⟨b82, r83⟩, ?_⟩
      refine fw_tk 4 rfl rfl (by kernel_rfl) (fun _ _ _ _ _ h => h) ?_
      refine fw_tk 5 rfl rfl (by kernel_rfl) (fun _ _ _ _ _ h => h) ?_
      refine fw_tk 6 rfl rfl (by kernel_rfl) (fun _ _ _ _ _ h => h) ?_
      refine fw_tk 8 rfl rfl (by kernel_rfl) (fun _ _ _ _ _ h => h) ?_
      refine fw_o1 7 (by kernel_rfl) ?_
      refine fw_oc rfl Tryd.func18 rfl rfl rfl ((num18_any 1 V81)) ?_
      rintro _ _ ⟨rfl, rfl⟩
      refine ⟨(.int .i64 1), rfl, ?_⟩
      refine ⟨⟨b82, r83⟩, ?_⟩
      refine fw_tk 9 rfl rfl (by kernel_rfl) (fun _ _ _ _ _ h => h) ?_
      refine fw_tk 10 rfl rfl (by kernel_rfl) (fun _ _ _ _ _ h => h) ?_
      refine fw_tk 11 rfl rfl (by kernel_rfl) (fun _ _ _ _ _ h => h) ?_
      refine fw_tk 12 rfl rfl (by kernel_rfl) (fun _ _ _ _ _ h => h) ?_
      refine fw_tk 13 rfl rfl (by kernel_rfl) (fun _ _ _ _ _ h => h) ?_
      refine fw_tk 14 rfl rfl (by kernel_rfl) (fun _ _ _ _ _ h => h) ?_
      refine fw_tk 15 rfl rfl (by kernel_rfl) (fun _ _ _ _ _ h => h) ?_
      refine fw_tk 16 rfl rfl (by kernel_rfl) (fun _ _ _ _ _ h => h) ?_
      refine fw_tk 17 rfl rfl (by kernel_rfl) (fun _ _ _ _ _ h => h) ?_
      refine fw_tk 18 rfl rfl (by kernel_rfl) (fun _ _ _ _ _ h => h) ?_
      refine fw_tk 19 rfl rfl (by kernel_rfl) (fun _ _ _ _ _ h => h) ?_
      refine fw_tk 20 rfl rfl (by kernel_rfl) (fun _ _ _ _ _ h => h) ?_
      refine fw_tk 21 rfl rfl (by kernel_rfl) (fun _ _ _ _ _ h => h) ?_
      refine fw_tk 22 rfl rfl (by kernel_rfl) (fun _ _ _ _ _ h => h) ?_
      refine fw_tk 23 rfl rfl (by kernel_rfl) (fun _ _ _ _ _ h => h) ?_
      refine fw_tk 24 rfl rfl (by kernel_rfl) (fun _ _ _ _ _ h => h) ?_
      refine fw_tk 25 rfl rfl (by kernel_rfl) (fun _ _ _ _ _ h => h) ?_
      refine fw_tk 26 rfl rfl (by kernel_rfl) (fun _ _ _ _ _ h => h) ?_
      refine fw_tk 27 rfl rfl (by kernel_rfl) (fun _ _ _ _ _ h => h) ?_
      refine fw_tk 28 rfl rfl (by kernel_rfl) (fun _ _ _ _ _ h => h) ?_
      refine fw_tk 29 rfl rfl (by kernel_rfl) (fun _ _ _ _ _ h => h) ?_
      refine fw_tk 30 rfl rfl (by kernel_rfl) (fun _ _ _ _ _ h => h) ?_
      refine fw_tk 31 rfl rfl (by kernel_rfl) (fun _ _ _ _ _ h => h) ?_
      refine fw_tk 32 rfl rfl (by kernel_rfl) (fun _ _ _ _ _ h => h) ?_
      refine fw_tk 33 rfl rfl (by kernel_rfl) (fun _ _ _ _ _ h => h) ?_
      refine fw_tk 34 rfl rfl (by kernel_rfl) (fun _ _ _ _ _ h => h) ?_
      refine fw_tk 35 rfl rfl (by kernel_rfl) (fun _ _ _ _ _ h => h) ?_
      refine fw_tl 36 (fun _ h => h.2) rfl rfl rfl (by kernel_rfl) (fun _ _ _ _ _ h => h) ?_
      refine fw_tk 37 rfl rfl (by kernel_rfl) (fun _ _ _ _ _ h => h) ?_
      refine fw_tk 38 rfl rfl (by kernel_rfl) (fun _ _ _ _ _ h => h) ?_
      refine fw_tx 39 79 (.pointer (some ⟨bP, (oP + i * 25), none⟩)) rfl rfl rfl rfl (fun a h W hW => by obtain ⟨b82, r83⟩ := hW; exact (run_indexOp (h.ev rfl) (h.ev rfl) (by rw [haP]; exact idxAsk _ _ _ _ _ (by have := ask_len hS; omega) _))) (by kernel_rfl) (fun _ _ _ _ _ h => h) ?_
      refine fw_tk 40 rfl rfl (by kernel_rfl) (fun _ _ _ _ _ h => h) ?_
      refine fw_tx 41 81 (.agg (Mq.row m (.slice ac m.cs.length cc) (.slice aw m.ws.length cw) (.slice af m.fs.length cf)).toArray) rfl rfl rfl rfl (fun a h W hW => by obtain ⟨b82, r83⟩ := hW; exact (run_loadOp (h.ev rfl) (run_loadAt_mid _ bP _ _ [.int .i64 m.k, .string m.cl, .bool m.clean, .int .i64 m.keep, .bool m.wI, .string m.wT, .string m.wP, .int .i64 m.wQ, .bool m.wR, .string m.us, .bool m.hu, .string m.pa, .bool m.hp, .bool m.pres, .int .i64 m.code, .slice ac m.cs.length cc, .bool m.dup, .int .i64 m.q, .bool m.re, .string m.top, .int .i64 m.id, .string m.pay, .slice aw m.ws.length cw, .slice af m.fs.length cf] _ (fun j u hj => (Below.cell b82 (p := ⟨bP, oP + i * 25 + j, none⟩) hbP).trans (hcP j u (by rw [List.getElem?_append_left (by have := (List.getElem?_eq_some_iff.1 hj).1; exact this)]; exact hj))) Tryd.underlying30 rfl (by kernel_rfl)))) (by kernel_rfl) (fun _ _ _ _ _ h => h) ?_
      refine fw_o1 42 (by kernel_rfl) ?_
      refine fw_oc rfl Tryd.func19 rfl rfl rfl ((by have h := eqMq_any m m _ _ _ _ _ _ V81 (OL3.lists f84) (hL.below b82) (by omega) (by omega) (by omega) (by omega) (by omega) (by omega); rw [eqB_refl m] at h; exact h)) ?_
      rintro _ V86 ⟨rfl, hb85⟩
      refine ⟨(.bool true), rfl, ?_⟩
      have b87 := b82.trans (hb85.mono b82.size)
      have r88 := r83.below hb85
      have f89 := (f84.below hb85)
      refine ⟨⟨b87, r88⟩, ?_⟩
      refine fw_tk 43 rfl rfl (by kernel_rfl) (fun _ _ _ _ _ h => h) ?_
      refine fw_tk 44 rfl rfl (by kernel_rfl) (fun _ _ _ _ _ h => h) ?_
      refine fw_ht (by kernel_rfl) ?_
      refine fw_cF rfl rfl ?_
      refine fw_sk ?_
      refine fw_bn ?_
      refine fw_th ?_
      refine fw_rg rfl ?_
      refine fw_pu rfl ?_
      refine fw_ex 17 (.int .i64 (((i + 1) : Nat) : Int)) rfl rfl rfl (fun a h => (run_binOp (h.ev rfl) (h.ev rfl) (by simp [go_sem]) (addIw _ _ _ _ (by omega) (by omega) (by omega)))) ?_
      refine fw_pu rfl ?_
      refine fw_dn ?_
      exact fw_th (fw_gf (hK3 _ _ _ (by omega) ⟨(i + 1), rfl, (by omega), rfl, b87⟩) ⟨rfl, (by first | rfl | (simp only [Look, cond, Nat.beq]; first | rfl | (congr 2; first | rfl | omega | (push_cast; omega)) | (simp; try omega))), trivial⟩)
    refine fw_cF rfl hb_5 ?_
    refine fw_xt ?_
    refine fw_te ?_
    refine fw_te ?_
    refine fw_be ?_
    refine fw_th ?_
    refine fw_sq ?_
    refine fw_rg rfl ?_
    refine fw_ca Tryd.func22 rfl rfl rfl ((wakesG (hT.below bW1))) ?_
    rintro _ V91 ⟨rfl, hb90⟩
    refine ⟨(.bool true), rfl, ?_⟩
    have b92 := bW1.trans (hb90.mono bW1.size)
    refine fw_pu rfl ?_
    refine fw_dt ?_
    refine fw_rt ?_
    refine ⟨fun a h => ?_⟩
    exact ow_ret1 rfl h.df (h.g 2 rfl) ⟨rfl, b92⟩
  refine fw_kn 12 rfl hb_4 ?_
  iterate 3 refine fw_pu rfl ?_
  refine fw_dt ?_
  refine fw_cF rfl rfl ?_
  refine fw_xt ?_
  refine fw_te ?_
  refine fw_te ?_
  refine fw_be ?_
  refine fw_th ?_
  refine fw_sq ?_
  refine fw_rg rfl ?_
  refine fw_ca Tryd.func22 rfl rfl rfl ((wakesG (hT.below bW1))) ?_
  rintro _ V94 ⟨rfl, hb93⟩
  refine ⟨(.bool true), rfl, ?_⟩
  have b95 := bW1.trans (hb93.mono bW1.size)
  refine fw_pu rfl ?_
  refine fw_dt ?_
  refine fw_rt ?_
  refine ⟨fun a h => ?_⟩
  exact ow_ret1 rfl h.df (h.g 2 rfl) ⟨rfl, b95⟩
end Go.Proofs.YtpgnlhfokffioaaDoor
