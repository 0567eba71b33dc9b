/-
  Packets: small laws for the statements.
-/
import Derived.Test.YtpgnlhfokffioaaDoorPgY
import Derived.Test.YtpgnlhfokffioaaDoorMqT
namespace Go.Proofs.YtpgnlhfokffioaaDoor
open Go.RowKit Go.Lib
theorem num18_any (n : Int) (w : World) : Calls Tryd.prog 18 #[.int .i64 n] w fun e w' => e = .returned (.int .i64 n) ∧ w = w' := by
  go_enter Tryd.func18, Tryd.ntmps18
  go_wp2
  go_ret
  exact ⟨rfl, rfl⟩
theorem parseN {w : World} {n cd : Nat} {ad : Option Addr} {l : List UInt8} {p : Mq × Nat × Int} (hn : n = l.length) (hp : paG l = p) (hs : Sl w (.slice ad n cd) l) (hl : l.length ≤ 100000) (hT : Tabs w) :
    Calls Tryd.prog 16 #[.slice ad n cd] w fun e w' => ∃ ac cc aw cw af cf, e = .returned (.tuple #[p.1.val (.slice ac p.1.cs.length cc) (.slice aw p.1.ws.length cw) (.slice af p.1.fs.length cf), .int .i64 (p.2.1 : Int), .int .i64 p.2.2]) ∧ OL3 w' w.heap.size ac cc aw cw af cf p.1 ∧ Below w.heap.size w w' := by
  subst hn hp
  exact parseG hs hl hT
theorem may_far {m : Mq} (h : mayG m = true) : m.Far := by
  have s := may_small h
  have hf : 1000 ≤ far := by decide
  exact ⟨Nat.le_trans s.cl hf, Nat.le_trans s.wT hf, Nat.le_trans s.wP hf, Nat.le_trans s.us hf, Nat.le_trans s.pa hf, Nat.le_trans s.cs (by decide), Nat.le_trans s.top hf, Nat.le_trans s.pay hf, Nat.le_trans s.ws (by decide), Nat.le_trans s.fs (by decide), fun x hx => Nat.le_trans (s.wsf x hx) hf, fun x hx => Nat.le_trans (s.fsf x hx) hf⟩
theorem ob_some {W : World} {B c : Nat} {a : Option Addr} {l : List UInt8} (h : OB W B a c l) (hl : l ≠ []) : ∃ b o, a = some ⟨b, o, none⟩ := by
  obtain ⟨ao, cap, hv, -, -, -, h4⟩ := (Sl.of_own h).1
  injection hv with e1
  obtain ⟨b, off, hb, -⟩ := h4 hl
  exact ⟨b, off, e1.trans hb⟩
theorem sl_some {W : World} {n c : Nat} {a : Option Addr} {l : List UInt8} (h : Sl W (.slice a n c) l) (hl : l ≠ []) : ∃ b o, a = some ⟨b, o, none⟩ := by
  obtain ⟨ao, cap, hv, -, -, -, h4⟩ := h
  injection hv with e1
  obtain ⟨b, off, hb, -⟩ := h4 hl
  exact ⟨b, off, e1.trans hb⟩
theorem slcA {a : Option Addr} {n c j : Nat} (h : ∃ b o, a = some ⟨b, o, none⟩) (h2 : j ≤ c) (h3 : c ≤ 9223372036854775807) (w : World) : (Instr.sliceAt 31 (.slice a n c) none (some (.int .i64 (j : Int))) none).run Tryd.prog w = .ok (.slice a j c) w := by
  obtain ⟨b, o, rfl⟩ := h
  exact run_slice1 b o n c j w h2 h3
theorem sl_pre {W : World} {n c k : Nat} {a : Option Addr} {l : List UInt8} (h : Sl W (.slice a n c) l) (ha : ∃ b o, a = some ⟨b, o, none⟩) (hk : k ≤ l.length) : Sl W (.slice a k c) (l.take k) := by
  obtain ⟨b, o, rfl⟩ := ha
  obtain ⟨rfl, -⟩ := sl_cap h
  exact h.prefix k hk
theorem en_ne (m : Mq) : enG m ≠ [] := by rw [en_eq]; exact List.cons_ne_nil _ _
theorem quo40 (n : Nat) (w : World) (h : n ≤ 1000000000) : (binOp .quo 3 (.int .i64 (n : Int)) (.int .i64 40)).run Tryd.prog w = .ok (.int .i64 ((n / 40 : Nat) : Int)) w := by
  have := wrap_i64 ((n / 40 : Nat) : Int) (by omega) (by omega)
  simp [go_sem, Int.tdiv_eq_ediv_of_nonneg (show (0 : Int) ≤ n by omega)]
  push_cast at this; exact this
theorem idxAsk (b off n cap i : Nat) (hi : i < n) (w : World) : (Instr.indexAt 22 (.slice (some ⟨b, off, none⟩) n cap) (.int .i64 (i : Int))).run Tryd.prog w = .ok (.pointer (some ⟨b, off + i * 25, none⟩)) w := by
  have h2 : ¬ n ≤ i := by omega
  simp [go_sem, Instr.indexAt, h2]
/-- What is asked at a place. -/
theorem ask_at {w : World} {a : Option Addr} {n c i : Nat} {L : List (Mq × List UInt8)} {q : Mq × List UInt8} (h : SlOf w 25 Ask18.At (.slice a n c) L) (hi : L[i]? = some q) : ∃ b o, a = some ⟨b, o, none⟩ ∧ b < w.heap.size ∧ Ask18.At w b (o + i * 25) q := by
  obtain ⟨ao, cap, e, h1, h2, h3, h4⟩ := id h
  injection e with e1 e2 e3
  obtain ⟨b, off, e4, hb, hq⟩ := h4 (by rintro rfl; simp at hi)
  exact ⟨b, off, e1.trans e4, hb, hq i q hi⟩
theorem ask_len {w : World} {a : Option Addr} {n c : Nat} {L : List (Mq × List UInt8)} (h : SlOf w 25 Ask18.At (.slice a n c) L) : n = L.length := by
  obtain ⟨ao, cap, e, -⟩ := h
  injection e with e1 e2 e3
theorem mq_same {m : Mq} : m.eqB m = true := eqB_refl m
/-- A block in which none of a packet's lists lies. -/
def O3N (ac : Option Addr) (cc : Nat) (aw : Option Addr) (cw : Nat) (af : Option Addr) (cf : Nat) (m : Mq) (q : Nat) : Prop := (∀ k, (Value.slice ac m.cs.length cc).ownBlock = some k → k ≠ q) ∧ (∀ k, (Value.slice aw m.ws.length cw).ownBlock = some k → k ≠ q) ∧ (∀ k, (Value.slice af m.fs.length cf).ownBlock = some k → k ≠ q)
theorem OL3.ltq {W : World} {B q : Nat} {ac aw af : Option Addr} {cc cw cf : Nat} {m : Mq} (h : OL3 W B ac cc aw cw af cf m) (hq : W.heap.size ≤ q) : O3N ac cc aw cw af cf m q := ⟨fun k hk e => by have := (blk_lt h.c hk).2; omega, fun k hk e => by have := (blk_lt h.w hk).2; omega, fun k hk e => by have := (blk_lt h.f hk).2; omega⟩
theorem OL3.chgN {W W' : World} {B q : Nat} {ac aw af : Option Addr} {cc cw cf : Nat} {m : Mq} (h : OL3 W B ac cc aw cw af cf m) (s : W.grownBy W' (some q)) (hn : O3N ac cc aw cw af cf m q) : OL3 W' B ac cc aw cw af cf m := ⟨olC_chg h.c s hn.1, olW_chg h.w s hn.2.1, olF_chg h.f s hn.2.2⟩
theorem ol_app {W W' : World} {B B1 c : Nat} {a ac aw af : Option Addr} {cc cw cf : Nat} {l : List UInt8} {v' : Value} {m : Mq} (h : OL3 W B1 ac cc aw cw af cf m) (hg : Grew W W' (.slice a l.length c) v') (ho : OB W B a c l) (h1 : ∀ k, (Value.slice ac m.cs.length cc).ownBlock = some k → k < B) (h2 : ∀ k, (Value.slice aw m.ws.length cw).ownBlock = some k → k < B) (h3 : ∀ k, (Value.slice af m.fs.length cf).ownBlock = some k → k < B) : OL3 W' B1 ac cc aw cw af cf m :=
  ⟨own_stay h.c hg.1 (fun k hk e => by have h4 := h1 k hk; have h5 := (blk_lt ho e.symm).1; omega), own_stay h.w hg.1 (fun k hk e => by have h4 := h2 k hk; have h5 := (blk_lt ho e.symm).1; omega), own_stay h.f hg.1 (fun k hk e => by have h4 := h3 k hk; have h5 := (blk_lt ho e.symm).1; omega)⟩
theorem ldSl {W : World} {b o : Nat} {v : Value} (h : W.cell? ⟨b, o, none⟩ = some v) : (Instr.loadAt 31 (.pointer (some ⟨b, o, none⟩))).run Tryd.prog W = .ok v W := by simp [go_sem, Instr.loadAt, h]
theorem en12 : enG (zM 12) = [192, 0] := by decide +kernel
theorem hm12 : mayG (zM 12) = true := by
  unfold mayG; rw [Bool.and_eq_true]; exact ⟨rfl, by decide +kernel⟩
set_option maxRecDepth 100000 in
set_option maxHeartbeats 4000000 in
theorem wakesG {w : World} (hT : Tabs w) :
    Calls Tryd.prog 22 #[] w fun e w' => e = .returned (.bool true) ∧ Below w.heap.size w w' := by
  have hb0 := Below.refl w.heap.size w
  refine fw_en 16 [] Tryd.func22 rfl Tryd.ntmps22 rfl trivial ?_
  refine fw_sq ?_
  refine fw_rg rfl ?_
  refine fw_pu rfl ?_
  refine fw_dt ?_
  refine fw_sq ?_
  refine fw_rg rfl ?_
  refine fw_ex 4 (.agg #[.int .i64 12, .string { data := #[] }, .bool false, .int .i64 0, .bool false, .string { data := #[] }, .string { data := #[] }, .int .i64 0, .bool false, .string { data := #[] }, .bool false, .string { data := #[] }, .bool false, .bool false, .int .i64 0, .slice none 0 0, .bool false, .int .i64 0, .bool false, .string { data := #[] }, .int .i64 0, .string { data := #[] }, .slice none 0 0, .slice none 0 0]) rfl rfl rfl (fun a h => (run_buildOp (bp1 (h.ev rfl)) (by first | kernel_rfl | rfl))) ?_
  refine fw_ca Tryd.func24 rfl rfl rfl ((bytesOk (zM 12) none none none _ _ _ 0 0 0 w ⟨nilL _ _, nilL _ _, nilL _ _⟩ (zM_far 12) (hT.below hb0) hm12)) ?_
  rintro _ VB ⟨_, aB, cB, rfl, rfl, hnB, hoB, hbB⟩
  refine ⟨_, rfl, ?_⟩
  have b1 := hb0.trans (hbB.mono hb0.size)
  iterate 5 refine fw_pu rfl ?_
  refine fw_dt ?_
  refine fw_sq ?_
  refine fw_rg rfl ?_
  refine fw_pu rfl ?_
  refine fw_ca Tryd.func18 rfl rfl rfl ((num18_any 0 VB)) ?_
  rintro _ _ ⟨rfl, rfl⟩
  refine ⟨(.int .i64 0), rfl, ?_⟩
  iterate 3 refine fw_pu rfl ?_
  refine fw_al (t := 5) (u := fun q => .slice (some ⟨q, 0, none⟩) 2 2) 13 [(B8 192), (B8 0)] rfl rfl rfl (fun a h => (bs8_2 _ (h.ev rfl) (h.ev rfl))) ?_
  intro q2 W3 g6 s4 r5
  have := Nat.le_trans b1.size g6
  have b7 := b1.trans (s4.mono b1.size)
  have f8 := (below_own hoB s4)
  refine fw_ca Tryd.func20 rfl rfl rfl ((eqBytes_any _ _ (enG (zM 12)) [192, 0] W3 (by decide +kernel) (by decide) (Sl.of_own f8).1 (slBB _ _ 192 0 r5)).mono fun e X h => (show e = .returned (.bool true) ∧ Below W3.heap.size W3 X from ⟨h.1.trans (by rw [en12]; rfl), by obtain ⟨m, rfl⟩ := h.2; exact bdrew (Below.refl _ _) m⟩)) ?_
  rintro _ VE ⟨rfl, hbE⟩
  refine ⟨(.bool true), rfl, ?_⟩
  have b9 := b7.trans (hbE.mono b7.size)
  have r10 := r5.below hbE
  have f11 := (below_own f8 hbE)
  iterate 2 refine fw_pu rfl ?_
  refine fw_dt ?_
  refine fw_rt ?_
  refine ⟨fun a h => ?_⟩
  exact ow_ret1 rfl h.df (h.g 0 rfl) ⟨rfl, b9⟩
end Go.Proofs.YtpgnlhfokffioaaDoor