/-
  Packets: what the laws lean on.
-/
import Derived.Test.YtpgnlhfokffioaaDoorKeA
namespace Go.Proofs.YtpgnlhfokffioaaDoor
section
open Go.RowKit Go.Lib
def Tabs (w : World) : Prop := Lib.Utf8Tabs (Tryd.laysValid_ren.g 3) (Tryd.laysValid_ren.g 4) w
theorem Tabs.below {w w' : World} (h : Tabs w) (hb : Below w.heap.size w w') : Tabs w' := Utf8Tabs_below h hb
def vdG (s : ByteArray) : Bool := Lib.validD s.data.toList
def zrG (s : ByteArray) : Bool := decide (0 ≤ Lib.indexByte s.data.toList 0)
def plG (s : ByteArray) : Bool := Lib.containsAny s.data.toList [43, 35]
def txG (s : ByteArray) (lo hi : Int) : Bool := decide (lo ≤ (s.size : Int)) && (decide ((s.size : Int) ≤ hi) && (vdG s && !zrG s))
def tpG (s : ByteArray) : Bool := txG s 1 64 && !plG s
def qsG (n : Int) : Bool := decide (0 ≤ n) && decide (n ≤ 2)
def idG (n : Int) : Bool := decide (1 ≤ n) && decide (n ≤ 65535)
def ctG (n : Int) : Bool := decide (1 ≤ n) && decide (n ≤ 8)
def wlG (m : Mq) : Bool := if m.wI then txG m.wT 1 64 && (decide ((m.wP.size : Int) ≤ 128) && qsG m.wQ) else isE m.wT && isE m.wP && (m.wQ == 0) && !m.wR
def pbG (m : Mq) : Bool := tpG m.top && (qsG m.q && (!decide (128 < (m.pay.size : Int)) && (if m.q == 0 then !m.dup && m.id == 0 else idG m.id)))
def cnG (m : Mq) : Bool := (txG m.cl 0 23 && (!decide (m.keep < 0) && (!decide (65535 < m.keep) && wlG m))) && ((txG m.us 0 64 && (m.hu || isE m.us)) && (!decide (64 < (m.pa.size : Int)) && ((m.hp || isE m.pa) && (!m.hp || m.hu))))
def wishG (x : EWish) : Bool := txG x.f 1 64 && qsG x.q
def codeG (n : Int) : Bool := qsG n || n == 128
def filtG (s : ByteArray) : Bool := txG s 1 64
def wsG (l : List EWish) : Bool := l.all wishG
def csG (l : List Int) : Bool := l.all codeG
def fsG (l : List ByteArray) : Bool := l.all filtG
theorem eqStrG (x y : Operand) (s t : ByteArray) (op : BinOp) (w : World) : (eqGuard op 9 x y (.string s) (.string t)).run Tryd.prog w = .ok () w := by cases op <;> simp [go_sem]
theorem strNeE (s : ByteArray) (w : World) : (binOp .neq 9 (.string s) (.string { data := #[] })).run Tryd.prog w = .ok (.bool (!isE s)) w := by simp [go_sem, isE]
theorem slR_at {W : World} {n i k c : Nat} {a : Option Addr} {L : List (List Value)} {q : List Value} (h : SlR W n (.slice a k c) L) (hi : L[i]? = some q) : ∃ b off, a = some ⟨b, off, none⟩ ∧ b < W.heap.size ∧ ∀ j u, q[j]? = some u → W.cell? ⟨b, off + i * n + j, none⟩ = some u := by
  obtain ⟨ao, cap, e, h1, h2, h3, h4⟩ := id h
  injection e with e1 e2 e3
  obtain ⟨b, off, e4, hb, hq⟩ := h4 (by rintro rfl; simp at hi)
  exact ⟨b, off, e1.trans e4, hb, fun j u hj => hq i q hi j u hj⟩
theorem slR_len {W : World} {n k c : Nat} {a : Option Addr} {L : List (List Value)} (h : SlR W n (.slice a k c) L) : k = L.length := by
  obtain ⟨ao, cap, e, -⟩ := h
  injection e with e1 e2 e3
theorem idxWs (b off n cap i : Nat) (hi : i < n) (w : World) : (Instr.indexAt 27 (.slice (some ⟨b, off, none⟩) n cap) (.int .i64 (i : Int))).run Tryd.prog w = .ok (.pointer (some ⟨b, off + i * 2, none⟩)) w := by
  have h2 : ¬ n ≤ i := by omega
  simp [go_sem, Instr.indexAt, h2]
theorem idxIs (b off n cap i : Nat) (hi : i < n) (w : World) : (Instr.indexAt 26 (.slice (some ⟨b, off, none⟩) n cap) (.int .i64 (i : Int))).run Tryd.prog w = .ok (.pointer (some ⟨b, off + i * 1, none⟩)) w := by
  have h2 : ¬ n ≤ i := by omega
  simp [go_sem, Instr.indexAt, h2]
theorem idxSs (b off n cap i : Nat) (hi : i < n) (w : World) : (Instr.indexAt 28 (.slice (some ⟨b, off, none⟩) n cap) (.int .i64 (i : Int))).run Tryd.prog w = .ok (.pointer (some ⟨b, off + i * 1, none⟩)) w := by
  have h2 : ¬ n ≤ i := by omega
  simp [go_sem, Instr.indexAt, h2]
theorem ldI1 {W : World} {b o : Nat} {x : Int} (h : W.cell? ⟨b, o, none⟩ = some (.int .i64 x)) : (Instr.loadAt 3 (.pointer (some ⟨b, o, none⟩))).run Tryd.prog W = .ok (.int .i64 x) W := by simp [go_sem, Instr.loadAt, h]
theorem ldS1 {W : World} {b o : Nat} {x : ByteArray} (h : W.cell? ⟨b, o, none⟩ = some (.string x)) : (Instr.loadAt 9 (.pointer (some ⟨b, o, none⟩))).run Tryd.prog W = .ok (.string x) W := by simp [go_sem, Instr.loadAt, h]
theorem ldW2 {W : World} {b o : Nat} {x : EWish} (h : ∀ j u, (rowWish x)[j]? = some u → W.cell? ⟨b, o + j, none⟩ = some u) : (Instr.loadAt 93 (.pointer (some ⟨b, o, none⟩))).run Tryd.prog W = .ok (.agg #[.string x.f, .int .i64 x.q]) W :=
  run_loadAt_mid W b o _ (rowWish x) _ h Tryd.underlying93 rfl (by kernel_rfl)
theorem all_take {α : Type} {p : α → Bool} {l : List α} {i : Nat} {x : α} (h : (l.take i).all p = true) (hx : l[i]? = some x) (hp : p x = true) : (l.take (i + 1)).all p = true := by
  rw [List.take_add_one, hx, List.all_append, h]; simp [hp]
theorem all_no {α : Type} {p : α → Bool} {l : List α} {i : Nat} {x : α} (hx : l[i]? = some x) (hp : p x = false) : l.all p = false := by
  cases h : l.all p with
  | false => rfl
  | true => rw [List.all_eq_true.1 h x (List.mem_of_getElem? hx)] at hp; cases hp
set_option maxRecDepth 100000 in
set_option maxHeartbeats 4000000 in
theorem isTextG (s : ByteArray) (lo hi : Int) (w : World) (hs : s.size ≤ 9223372036854775807) (hT : Tabs w) :
    Calls Tryd.prog 96 #[.string s, .int .i64 lo, .int .i64 hi] w fun e w' => e = .returned (.bool (txG s lo hi)) ∧ Below w.heap.size w w' := by
  have hb0 := Below.refl w.heap.size w
  refine fw_en 26 [(0, .string s), (1, .int .i64 lo), (2, .int .i64 hi)] Tryd.func96 rfl Tryd.ntmps96 rfl ⟨rfl, rfl, rfl, trivial⟩ ?_
  refine fw_sq (fw_rg rfl (fw_pu rfl (fw_dt (fw_sq (fw_rg rfl ?_)))))
  iterate 5 refine fw_pu rfl ?_
  rcases Bool.eq_false_or_eq_true ((decide (lo ≤ (s.size : Int)))) with hb_1 | hb_1
  · skip
    refine fw_kn 11 rfl hb_1 ?_
    iterate 6 refine fw_pu rfl ?_
    rcases Bool.eq_false_or_eq_true ((decide ((s.size : Int) ≤ hi))) with hb_2 | hb_2
    · skip
      refine fw_kn 17 rfl hb_2 (fw_pu rfl (fw_ca Tryd.func78 rfl rfl rfl ((Any.utf8_ValidString Tryd.laysValid s w hs (hT.below hb0))) ?_))
      rintro _ V4 ⟨rfl, hb3⟩
      refine ⟨(.bool (vdG s)), rfl, ?_⟩
      have b5 := hb0.trans (hb3.mono hb0.size)
      iterate 2 refine fw_pu rfl ?_
      rcases Bool.eq_false_or_eq_true ((vdG s)) with hb_6 | hb_6
      · skip
        refine fw_kn 21 rfl hb_6 (fw_pu rfl (fw_ca Tryd.func100 rfl rfl rfl ((Any.strings_Contains_one Tryd.laysContains s 0 V4)) ?_))
        rintro _ _ ⟨rfl, rfl⟩
        refine ⟨(.bool (zrG s)), rfl, ?_⟩
        iterate 3 refine fw_pu rfl ?_
        refine fw_dt (fw_rt ?_)
        refine ⟨fun a h => ?_⟩
        exact ow_ret1 rfl h.df (h.g 6 rfl) ⟨by (try unfold txG); simp [hb_1, hb_2, hb_6], b5⟩
      refine fw_kn 21 rfl hb_6 ?_
      iterate 5 refine fw_pu rfl ?_
      refine fw_dt (fw_rt ?_)
      refine ⟨fun a h => ?_⟩
      exact ow_ret1 rfl h.df (h.g 6 rfl) ⟨by (try unfold txG); simp [hb_1, hb_2, hb_6], b5⟩
    refine fw_kn 17 rfl hb_2 ?_
    iterate 9 refine fw_pu rfl ?_
    refine fw_dt (fw_rt ?_)
    refine ⟨fun a h => ?_⟩
    exact ow_ret1 rfl h.df (h.g 6 rfl) ⟨by (try unfold txG); simp [hb_1, hb_2], hb0⟩
  refine fw_kn 11 rfl hb_1 ?_
  iterate 15 refine fw_pu rfl ?_
  refine fw_dt (fw_rt ?_)
  refine ⟨fun a h => ?_⟩
  exact ow_ret1 rfl h.df (h.g 6 rfl) ⟨by (try unfold txG); simp [hb_1], hb0⟩
set_option maxRecDepth 100000 in
set_option maxHeartbeats 4000000 in
theorem isQoSG (n : Int) (w : World) :
    Calls Tryd.prog 99 #[.int .i64 n] w fun e w' => e = .returned (.bool (qsG n)) ∧ w = w' := by
  have hb0 := Below.refl w.heap.size w
  refine fw_en 9 [(0, .int .i64 n)] Tryd.func99 rfl Tryd.ntmps99 rfl ⟨rfl, trivial⟩ ?_
  refine fw_sq (fw_rg rfl (fw_pu rfl (fw_dt (fw_sq (fw_rg rfl ?_)))))
  iterate 3 refine fw_pu rfl ?_
  rcases Bool.eq_false_or_eq_true ((decide (0 ≤ n))) with hb_1 | hb_1
  · skip
    refine fw_kn 5 rfl hb_1 ?_
    iterate 4 refine fw_pu rfl ?_
    refine fw_dt (fw_rt ?_)
    refine ⟨fun a h => ?_⟩
    exact ow_ret1 rfl h.df (h.g 2 rfl) ⟨by (try unfold qsG); simp [hb_1], rfl⟩
  refine fw_kn 5 rfl hb_1 ?_
  iterate 4 refine fw_pu rfl ?_
  refine fw_dt (fw_rt ?_)
  refine ⟨fun a h => ?_⟩
  exact ow_ret1 rfl h.df (h.g 2 rfl) ⟨by (try unfold qsG); simp [hb_1], rfl⟩
set_option maxRecDepth 100000 in
set_option maxHeartbeats 4000000 in
theorem isIDG (n : Int) (w : World) :
    Calls Tryd.prog 81 #[.int .i64 n] w fun e w' => e = .returned (.bool (idG n)) ∧ w = w' := by
  have hb0 := Below.refl w.heap.size w
  refine fw_en 9 [(0, .int .i64 n)] Tryd.func81 rfl Tryd.ntmps81 rfl ⟨rfl, trivial⟩ ?_
  refine fw_sq (fw_rg rfl (fw_pu rfl (fw_dt (fw_sq (fw_rg rfl ?_)))))
  iterate 3 refine fw_pu rfl ?_
  rcases Bool.eq_false_or_eq_true ((decide (1 ≤ n))) with hb_1 | hb_1
  · skip
    refine fw_kn 5 rfl hb_1 ?_
    iterate 4 refine fw_pu rfl ?_
    refine fw_dt (fw_rt ?_)
    refine ⟨fun a h => ?_⟩
    exact ow_ret1 rfl h.df (h.g 2 rfl) ⟨by (try unfold idG); simp [hb_1], rfl⟩
  refine fw_kn 5 rfl hb_1 ?_
  iterate 4 refine fw_pu rfl ?_
  refine fw_dt (fw_rt ?_)
  refine ⟨fun a h => ?_⟩
  exact ow_ret1 rfl h.df (h.g 2 rfl) ⟨by (try unfold idG); simp [hb_1], rfl⟩
set_option maxRecDepth 100000 in
set_option maxHeartbeats 4000000 in
theorem isCountG (n : Int) (w : World) :
    Calls Tryd.prog 82 #[.int .i64 n] w fun e w' => e = .returned (.bool (ctG n)) ∧ w = w' := by
  have hb0 := Below.refl w.heap.size w
  refine fw_en 9 [(0, .int .i64 n)] Tryd.func82 rfl Tryd.ntmps82 rfl ⟨rfl, trivial⟩ ?_
  refine fw_sq (fw_rg rfl (fw_pu rfl (fw_dt (fw_sq (fw_rg rfl ?_)))))
  iterate 3 refine fw_pu rfl ?_
  rcases Bool.eq_false_or_eq_true ((decide (1 ≤ n))) with hb_1 | hb_1
  · skip
    refine fw_kn 5 rfl hb_1 ?_
    iterate 4 refine fw_pu rfl ?_
    refine fw_dt (fw_rt ?_)
    refine ⟨fun a h => ?_⟩
    exact ow_ret1 rfl h.df (h.g 2 rfl) ⟨by (try unfold ctG); simp [hb_1], rfl⟩
  refine fw_kn 5 rfl hb_1 ?_
  iterate 4 refine fw_pu rfl ?_
  refine fw_dt (fw_rt ?_)
  refine ⟨fun a h => ?_⟩
  exact ow_ret1 rfl h.df (h.g 2 rfl) ⟨by (try unfold ctG); simp [hb_1], rfl⟩
set_option maxRecDepth 100000 in
set_option maxHeartbeats 4000000 in
theorem isTopicG (s : ByteArray) (w : World) (hs : s.size ≤ far) (hT : Tabs w) :
    Calls Tryd.prog 98 #[.string s] w fun e w' => e = .returned (.bool (tpG s)) ∧ Below w.heap.size w w' := by
  have hb0 := Below.refl w.heap.size w
  have hs0 : s.size ≤ 140737488351232 := hs
  refine fw_en 10 [(0, .string s)] Tryd.func98 rfl Tryd.ntmps98 rfl ⟨rfl, trivial⟩ ?_
  refine fw_sq (fw_rg rfl (fw_pu rfl (fw_dt (fw_sq (fw_rg rfl (fw_pu rfl ?_))))))
  refine fw_ca Tryd.func96 rfl rfl rfl ((isTextG s 1 64 w (by omega) (hT.below hb0))) ?_
  rintro _ V2 ⟨rfl, hb1⟩
  refine ⟨(.bool (txG s 1 64)), rfl, ?_⟩
  have b3 := hb0.trans (hb1.mono hb0.size)
  refine fw_pu rfl ?_
  rcases Bool.eq_false_or_eq_true ((txG s 1 64)) with hb_4 | hb_4
  · skip
    refine fw_kn 5 rfl hb_4 (fw_pu rfl ?_)
    refine fw_ca Tryd.func101 rfl rfl rfl ((containsAny_any s V2 (by have h := hb_4; unfold txG at h; simp at h; omega))) ?_
    rintro _ V6 ⟨rfl, hb5⟩
    refine ⟨(.bool (plG s)), rfl, ?_⟩
    have b7 := b3.trans (hb5.mono b3.size)
    iterate 3 refine fw_pu rfl ?_
    refine fw_dt (fw_rt ?_)
    refine ⟨fun a h => ?_⟩
    exact ow_ret1 rfl h.df (h.g 2 rfl) ⟨by (try unfold tpG); simp [hb_4], b7⟩
  refine fw_kn 5 rfl hb_4 ?_
  iterate 5 refine fw_pu rfl ?_
  refine fw_dt (fw_rt ?_)
  refine ⟨fun a h => ?_⟩
  exact ow_ret1 rfl h.df (h.g 2 rfl) ⟨by (try unfold tpG); simp [hb_4], b3⟩
set_option maxRecDepth 100000 in
set_option maxHeartbeats 4000000 in
theorem validWillG (m : Mq) (w : World) (hF : m.Far) (hT : Tabs w) :
    Calls Tryd.prog 97 #[.agg #[.bool m.wI, .string m.wT, .string m.wP, .int .i64 m.wQ, .bool m.wR]] w fun e w' => e = .returned (.bool (wlG m)) ∧ Below w.heap.size w w' := by
  have hb0 := Below.refl w.heap.size w
  have hF0 : m.cl.size ≤ 140737488351232 := hF.cl
  have hF1 : m.wT.size ≤ 140737488351232 := hF.wT
  have hF2 : m.wP.size ≤ 140737488351232 := hF.wP
  have hF3 : m.us.size ≤ 140737488351232 := hF.us
  have hF4 : m.pa.size ≤ 140737488351232 := hF.pa
  have hF5 : m.top.size ≤ 140737488351232 := hF.top
  have hF6 : m.pay.size ≤ 140737488351232 := hF.pay
  refine fw_en 23 [(0, .agg #[.bool m.wI, .string m.wT, .string m.wP, .int .i64 m.wQ, .bool m.wR])] Tryd.func97 rfl Tryd.ntmps97 rfl ⟨rfl, trivial⟩ ?_
  refine fw_sq (fw_rg rfl (fw_bx rfl (cs := [.bool m.wI, .string m.wT, .string m.wP, .int .i64 m.wQ, .bool m.wR]) rfl ?_))
  intro q1 W2 g5 s3 r4
  have := Nat.le_trans hb0.size g5
  have b6 := hb0.trans (s3.mono hb0.size)
  refine fw_pu rfl (fw_dt (fw_sq (fw_sq (fw_rg rfl (fw_pu rfl (fw_ld r4 rfl rfl (fw_pu rfl (fw_dt ?_))))))))
  rcases Bool.eq_false_or_eq_true (m.wI) with hb_7 | hb_7
  · skip
    refine fw_cF rfl (not_of hb_7) (fw_sk (fw_th (fw_sq (fw_rg rfl (fw_pu rfl (fw_ld r4 rfl rfl ?_))))))
    refine fw_ca Tryd.func96 rfl rfl rfl ((isTextG m.wT 1 64 W2 (by omega) (hT.below b6))) ?_
    rintro _ V9 ⟨rfl, hb8⟩
    refine ⟨(.bool (txG m.wT 1 64)), rfl, ?_⟩
    have b10 := b6.trans (hb8.mono b6.size)
    have r11 := r4.below hb8
    refine fw_pu rfl ?_
    rcases Bool.eq_false_or_eq_true ((txG m.wT 1 64)) with hb_12 | hb_12
    · skip
      refine fw_kn 12 rfl hb_12 (fw_pu rfl (fw_ld r11 rfl rfl ?_))
      iterate 4 refine fw_pu rfl ?_
      rcases Bool.eq_false_or_eq_true ((decide ((m.wP.size : Int) ≤ 128))) with hb_13 | hb_13
      · skip
        refine fw_kn 18 rfl hb_13 (fw_pu rfl (fw_ld r11 rfl rfl (fw_ca Tryd.func99 rfl rfl rfl ((isQoSG m.wQ V9)) ?_)))
        rintro _ _ ⟨rfl, rfl⟩
        refine ⟨(.bool (qsG m.wQ)), rfl, ?_⟩
        iterate 2 refine fw_pu rfl ?_
        refine fw_dt (fw_rt ?_)
        refine ⟨fun a h => ?_⟩
        exact ow_ret1 rfl h.df (h.g 2 rfl) ⟨by (try unfold wlG); simp [hb_7, hb_12, hb_13], b10⟩
      refine fw_kn 18 rfl hb_13 ?_
      iterate 5 refine fw_pu rfl ?_
      refine fw_dt (fw_rt ?_)
      refine ⟨fun a h => ?_⟩
      exact ow_ret1 rfl h.df (h.g 2 rfl) ⟨by (try unfold wlG); simp [hb_7, hb_12, hb_13], b10⟩
    refine fw_kn 12 rfl hb_12 ?_
    iterate 11 refine fw_pu rfl ?_
    refine fw_dt (fw_rt ?_)
    refine ⟨fun a h => ?_⟩
    exact ow_ret1 rfl h.df (h.g 2 rfl) ⟨by (try unfold wlG); simp [hb_7, hb_12], b10⟩
  refine fw_cT rfl (not_of hb_7) (fw_sq (fw_rg rfl (fw_ld r4 rfl rfl ?_)))
  refine fw_ex 7 (.agg #[.bool false, .string { data := #[] }, .string { data := #[] }, .int .i64 0, .bool false]) rfl rfl rfl (fun a h => (run_buildOp (vs := #[]) (by simp) (by kernel_rfl))) ?_
  refine fw_ex 8 (.bool (!m.wI && isE m.wT && isE m.wP && (m.wQ == 0) && !m.wR)) rfl rfl rfl (fun a h => (run_binOp (h.ev rfl) (h.ev rfl) (eqWill _ _ _ _ _) (willZ _ _ _ _ _ _))) (fw_pu rfl (fw_dt (fw_rt (fw_tr ?_))))
  refine ⟨fun a h => ?_⟩
  exact ow_ret1 rfl h.df (h.g 2 rfl) ⟨by (try unfold wlG); simp [hb_7], b6⟩
set_option maxRecDepth 100000 in
set_option maxHeartbeats 4000000 in
theorem validPublishG (m : Mq) (ac aw af : Option Addr) (nc nw nf cc cw cf : Nat) (w : World) (hF : m.Far) (hT : Tabs w) :
    Calls Tryd.prog 80 #[.agg (Mq.row m (.slice ac nc cc) (.slice aw nw cw) (.slice af nf cf)).toArray] w fun e w' => e = .returned (.bool (pbG m)) ∧ Below w.heap.size w w' := by
  have hb0 := Below.refl w.heap.size w
  have hF0 : m.cl.size ≤ 140737488351232 := hF.cl
  have hF1 : m.wT.size ≤ 140737488351232 := hF.wT
  have hF2 : m.wP.size ≤ 140737488351232 := hF.wP
  have hF3 : m.us.size ≤ 140737488351232 := hF.us
  have hF4 : m.pa.size ≤ 140737488351232 := hF.pa
  have hF5 : m.top.size ≤ 140737488351232 := hF.top
  have hF6 : m.pay.size ≤ 140737488351232 := hF.pay
  refine fw_en 33 [(0, .agg (Mq.row m (.slice ac nc cc) (.slice aw nw cw) (.slice af nf cf)).toArray)] Tryd.func80 rfl Tryd.ntmps80 rfl ⟨rfl, trivial⟩ ?_
  refine fw_sq (fw_rg rfl (fw_bx rfl (cs := [.int .i64 m.k, .string m.cl, .bool m.clean, .int .i64 m.keep, .bool m.wI, .string m.wT, .string m.wP, .int .i64 m.wQ, .bool m.wR, .string m.us, .bool m.hu, .string m.pa, .bool m.hp, .bool m.pres, .int .i64 m.code, .slice ac nc cc, .bool m.dup, .int .i64 m.q, .bool m.re, .string m.top, .int .i64 m.id, .string m.pay, .slice aw nw cw, .slice af nf cf]) rfl ?_))
  intro q1 W2 g5 s3 r4
  have := Nat.le_trans hb0.size g5
  have b6 := hb0.trans (s3.mono hb0.size)
  refine fw_pu rfl (fw_dt (fw_sq (fw_sq (fw_rg rfl (fw_pu rfl (fw_ld r4 rfl rfl ?_))))))
  refine fw_ca Tryd.func98 rfl rfl rfl ((isTopicG m.top W2 (by omega) (hT.below b6))) ?_
  rintro _ V8 ⟨rfl, hb7⟩
  refine ⟨(.bool (tpG m.top)), rfl, ?_⟩
  have b9 := b6.trans (hb7.mono b6.size)
  have r10 := r4.below hb7
  iterate 2 refine fw_pu rfl ?_
  rcases Bool.eq_false_or_eq_true ((tpG m.top)) with hb_11 | hb_11
  · skip
    refine fw_kn 7 rfl (not_of hb_11) (fw_pu rfl (fw_ld r10 rfl rfl (fw_ca Tryd.func99 rfl rfl rfl ((isQoSG m.q V8)) ?_)))
    rintro _ _ ⟨rfl, rfl⟩
    refine ⟨(.bool (qsG m.q)), rfl, ?_⟩
    iterate 3 refine fw_pu rfl ?_
    rcases Bool.eq_false_or_eq_true ((qsG m.q)) with hb_12 | hb_12
    · skip
      refine fw_kn 13 rfl (not_of hb_12) (fw_pu rfl (fw_ld r10 rfl rfl ?_))
      iterate 3 refine fw_pu rfl ?_
      refine fw_dt ?_
      rcases Bool.eq_false_or_eq_true ((decide (128 < (m.pay.size : Int)))) with hb_13 | hb_13
      · skip
        refine fw_cT rfl hb_13 (fw_sq (fw_rg rfl (fw_pu rfl (fw_dt (fw_rt (fw_tr ?_))))))
        refine ⟨fun a h => ?_⟩
        exact ow_ret1 rfl h.df (h.g 2 rfl) ⟨by (try unfold pbG); simp [hb_11, hb_12, hb_13], b9⟩
      refine fw_cF rfl hb_13 (fw_sk (fw_th (fw_sq (fw_sq (fw_rg rfl (fw_pu rfl (fw_ld r10 rfl rfl (fw_pu rfl (fw_dt ?_)))))))))
      rcases Bool.eq_false_or_eq_true ((m.q == 0)) with hb_14 | hb_14
      · skip
        refine fw_cT rfl hb_14 (fw_sq (fw_rg rfl (fw_pu rfl (fw_ld r10 rfl rfl ?_))))
        iterate 2 refine fw_pu rfl ?_
        rcases Bool.eq_false_or_eq_true (m.dup) with hb_15 | hb_15
        · skip
          refine fw_kn 25 rfl (not_of hb_15) ?_
          iterate 5 refine fw_pu rfl ?_
          refine fw_dt (fw_rt (fw_tr ?_))
          refine ⟨fun a h => ?_⟩
          exact ow_ret1 rfl h.df (h.g 2 rfl) ⟨by (try unfold pbG); simp [hb_11, hb_12, hb_13, hb_14, hb_15], b9⟩
        refine fw_kn 25 rfl (not_of hb_15) (fw_pu rfl (fw_ld r10 rfl rfl ?_))
        iterate 3 refine fw_pu rfl ?_
        refine fw_dt (fw_rt (fw_tr ?_))
        refine ⟨fun a h => ?_⟩
        exact ow_ret1 rfl h.df (h.g 2 rfl) ⟨by (try unfold pbG); simp [hb_11, hb_12, hb_13, hb_14, hb_15], b9⟩
      refine fw_cF rfl hb_14 (fw_sk (fw_th (fw_sq (fw_rg rfl (fw_pu rfl (fw_ld r10 rfl rfl (fw_ca Tryd.func81 rfl rfl rfl ((isIDG m.id V8)) ?_)))))))
      rintro _ _ ⟨rfl, rfl⟩
      refine ⟨(.bool (idG m.id)), rfl, ?_⟩
      refine fw_pu rfl (fw_dt (fw_rt ?_))
      refine ⟨fun a h => ?_⟩
      exact ow_ret1 rfl h.df (h.g 2 rfl) ⟨by (try unfold pbG); simp [hb_11, hb_12, hb_13, hb_14], b9⟩
    refine fw_kn 13 rfl (not_of hb_12) ?_
    iterate 5 refine fw_pu rfl ?_
    refine fw_dt (fw_cT rfl rfl (fw_sq (fw_rg rfl (fw_pu rfl (fw_dt (fw_rt (fw_tr ?_)))))))
    refine ⟨fun a h => ?_⟩
    exact ow_ret1 rfl h.df (h.g 2 rfl) ⟨by (try unfold pbG); simp [hb_11, hb_12], b9⟩
  refine fw_kn 7 rfl (not_of hb_11) ?_
  iterate 11 refine fw_pu rfl ?_
  refine fw_dt (fw_cT rfl rfl (fw_sq (fw_rg rfl (fw_pu rfl (fw_dt (fw_rt (fw_tr ?_)))))))
  refine ⟨fun a h => ?_⟩
  exact ow_ret1 rfl h.df (h.g 2 rfl) ⟨by (try unfold pbG); simp [hb_11], b9⟩
set_option maxRecDepth 100000 in
set_option maxHeartbeats 4000000 in
theorem validConnectG (m : Mq) (ac aw af : Option Addr) (nc nw nf cc cw cf : Nat) (w : World) (hF : m.Far) (hT : Tabs w) :
    Calls Tryd.prog 79 #[.agg (Mq.row m (.slice ac nc cc) (.slice aw nw cw) (.slice af nf cf)).toArray] w fun e w' => e = .returned (.bool (cnG m)) ∧ Below w.heap.size w w' := by
  have hb0 := Below.refl w.heap.size w
  have hF0 : m.cl.size ≤ 140737488351232 := hF.cl
  have hF1 : m.wT.size ≤ 140737488351232 := hF.wT
  have hF2 : m.wP.size ≤ 140737488351232 := hF.wP
  have hF3 : m.us.size ≤ 140737488351232 := hF.us
  have hF4 : m.pa.size ≤ 140737488351232 := hF.pa
  have hF5 : m.top.size ≤ 140737488351232 := hF.top
  have hF6 : m.pay.size ≤ 140737488351232 := hF.pay
  refine fw_en 61 [(0, .agg (Mq.row m (.slice ac nc cc) (.slice aw nw cw) (.slice af nf cf)).toArray)] Tryd.func79 rfl Tryd.ntmps79 rfl ⟨rfl, trivial⟩ ?_
  refine fw_sq (fw_rg rfl (fw_bx rfl (cs := [.int .i64 m.k, .string m.cl, .bool m.clean, .int .i64 m.keep, .bool m.wI, .string m.wT, .string m.wP, .int .i64 m.wQ, .bool m.wR, .string m.us, .bool m.hu, .string m.pa, .bool m.hp, .bool m.pres, .int .i64 m.code, .slice ac nc cc, .bool m.dup, .int .i64 m.q, .bool m.re, .string m.top, .int .i64 m.id, .string m.pay, .slice aw nw cw, .slice af nf cf]) rfl ?_))
  intro q1 W2 g5 s3 r4
  have := Nat.le_trans hb0.size g5
  have b6 := hb0.trans (s3.mono hb0.size)
  refine fw_pu rfl (fw_dt ?_)
  refine ⟨fun a h => ?_⟩
  refine wp_scope_end rfl rfl fun J' HJ => ?_
  refine wpSpine_seq rfl fun K hK7 => ?_
  refine fw_in h (fw_sq (fw_rg rfl (fw_pu rfl (fw_ld r4 rfl rfl ?_))))
  refine fw_ca Tryd.func96 rfl rfl rfl ((isTextG m.cl 0 23 W2 (by omega) (hT.below b6))) ?_
  rintro _ V9 ⟨rfl, hb8⟩
  refine ⟨(.bool (txG m.cl 0 23)), rfl, ?_⟩
  have b10 := b6.trans (hb8.mono b6.size)
  have r11 := r4.below hb8
  iterate 2 refine fw_pu rfl ?_
  rcases Bool.eq_false_or_eq_true ((txG m.cl 0 23)) with hb_12 | hb_12
  · skip
    refine fw_kn 7 rfl (not_of hb_12) (fw_pu rfl (fw_ld r11 rfl rfl ?_))
    iterate 3 refine fw_pu rfl ?_
    rcases Bool.eq_false_or_eq_true ((decide (m.keep < 0))) with hb_13 | hb_13
    · skip
      refine fw_kn 12 rfl hb_13 ?_
      iterate 10 refine fw_pu rfl ?_
      refine fw_dt (fw_cT rfl rfl (fw_go ?_))
      refine ⟨fun a h => ?_⟩
      refine ow_then_goto (ow_jump (HJ _ _ ?_))
      refine fw_in h (fw_sq (fw_rg rfl ?_))
      iterate 2 refine fw_pu rfl ?_
      refine fw_dt (fw_rt ?_)
      refine ⟨fun a h => ?_⟩
      refine ow_nogoto_ret ?_
      exact ow_ret1 rfl h.df (h.g 2 rfl) ⟨by (try unfold cnG); simp [hb_12, hb_13], b10⟩
    refine fw_kn 12 rfl hb_13 (fw_pu rfl (fw_ld r11 rfl rfl ?_))
    iterate 3 refine fw_pu rfl ?_
    rcases Bool.eq_false_or_eq_true ((decide (65535 < m.keep))) with hb_14 | hb_14
    · skip
      refine fw_kn 17 rfl hb_14 ?_
      iterate 5 refine fw_pu rfl ?_
      refine fw_dt (fw_cT rfl rfl (fw_go ?_))
      refine ⟨fun a h => ?_⟩
      refine ow_then_goto (ow_jump (HJ _ _ ?_))
      refine fw_in h (fw_sq (fw_rg rfl ?_))
      iterate 2 refine fw_pu rfl ?_
      refine fw_dt (fw_rt ?_)
      refine ⟨fun a h => ?_⟩
      refine ow_nogoto_ret ?_
      exact ow_ret1 rfl h.df (h.g 2 rfl) ⟨by (try unfold cnG); simp [hb_12, hb_13, hb_14], b10⟩
    refine fw_kn 17 rfl hb_14 (fw_pu rfl (fw_ld r11 rfl rfl (fw_ca Tryd.func97 rfl rfl rfl ((validWillG m V9 hF (hT.below b10))) ?_)))
    rintro _ V16 ⟨rfl, hb15⟩
    refine ⟨(.bool (wlG m)), rfl, ?_⟩
    have b17 := b10.trans (hb15.mono b10.size)
    have r18 := r11.below hb15
    iterate 2 refine fw_pu rfl ?_
    refine fw_dt ?_
    rcases Bool.eq_false_or_eq_true ((wlG m)) with hb_19 | hb_19
    · skip
      refine fw_cF rfl (not_of hb_19) (fw_sk ?_)
      refine ⟨fun a h => ?_⟩
      refine ow_then (hK7 _ _ ?_)
      refine wpSpine_seq rfl fun K hK20 => ?_
      refine fw_in h (fw_sq (fw_rg rfl (fw_pu rfl (fw_ld r18 rfl rfl ?_))))
      refine fw_ca Tryd.func96 rfl rfl rfl ((isTextG m.us 0 64 V16 (by omega) (hT.below b17))) ?_
      rintro _ V22 ⟨rfl, hb21⟩
      refine ⟨(.bool (txG m.us 0 64)), rfl, ?_⟩
      have b23 := b17.trans (hb21.mono b17.size)
      have r24 := r18.below hb21
      iterate 2 refine fw_pu rfl ?_
      rcases Bool.eq_false_or_eq_true ((txG m.us 0 64)) with hb_25 | hb_25
      · skip
        refine fw_kn 27 rfl (not_of hb_25) (fw_pu rfl (fw_ld r24 rfl rfl ?_))
        iterate 2 refine fw_pu rfl ?_
        rcases Bool.eq_false_or_eq_true (m.hu) with hb_26 | hb_26
        · skip
          refine fw_kn 31 rfl (not_of hb_26) ?_
          iterate 5 refine fw_pu rfl ?_
          refine fw_dt (fw_cF rfl rfl (fw_sk ?_))
          refine ⟨fun a h => ?_⟩
          refine ow_then (hK20 _ _ ?_)
          refine wpSpine_seq rfl fun K hK27 => ?_
          refine fw_in h (fw_sq (fw_rg rfl (fw_pu rfl (fw_ld r24 rfl rfl ?_))))
          iterate 3 refine fw_pu rfl ?_
          rcases Bool.eq_false_or_eq_true ((decide (64 < (m.pa.size : Int)))) with hb_28 | hb_28
          · skip
            refine fw_kn 41 rfl hb_28 ?_
            iterate 18 refine fw_pu rfl ?_
            refine fw_dt (fw_cT rfl rfl (fw_go ?_))
            refine ⟨fun a h => ?_⟩
            refine ow_then_goto (ow_jump (HJ _ _ ?_))
            refine fw_in h (fw_sq (fw_rg rfl ?_))
            iterate 2 refine fw_pu rfl ?_
            refine fw_dt (fw_rt ?_)
            refine ⟨fun a h => ?_⟩
            refine ow_nogoto_ret ?_
            exact ow_ret1 rfl h.df (h.g 2 rfl) ⟨by (try unfold cnG); simp [hb_12, hb_13, hb_14, hb_19, hb_25, hb_26, hb_28], b23⟩
          refine fw_kn 41 rfl hb_28 (fw_pu rfl (fw_ld r24 rfl rfl ?_))
          iterate 2 refine fw_pu rfl ?_
          rcases Bool.eq_false_or_eq_true (m.hp) with hb_29 | hb_29
          · skip
            refine fw_kn 45 rfl (not_of hb_29) ?_
            iterate 7 refine fw_pu rfl ?_
            refine fw_ld r24 rfl rfl (fw_pu rfl (fw_kn 54 rfl hb_29 (fw_pu rfl (fw_ld r24 rfl rfl ?_))))
            iterate 3 refine fw_pu rfl ?_
            refine fw_dt (fw_cF rfl (not_of hb_26) (fw_sk ?_))
            refine ⟨fun a h => ?_⟩
            refine ow_then (hK27 _ _ ?_)
            refine wpSpine_seq rfl fun K hK30 => ?_
            refine fw_in h (fw_rg rfl (fw_pu rfl (fw_dn ?_)))
            refine ⟨fun a h => ?_⟩
            refine ow_then (hK30 _ _ ?_)
            refine wpSpine_label (HJ _ _ ?_)
            refine fw_in h (fw_sq (fw_rg rfl ?_))
            iterate 2 refine fw_pu rfl ?_
            refine fw_dt (fw_rt ?_)
            refine ⟨fun a h => ?_⟩
            refine ow_nogoto_ret ?_
            exact ow_ret1 rfl h.df (h.g 2 rfl) ⟨by (try unfold cnG); simp [hb_12, hb_13, hb_14, hb_19, hb_25, hb_26, hb_28, hb_29], b23⟩
          refine fw_kn 45 rfl (not_of hb_29) (fw_pu rfl (fw_ld r24 rfl rfl (fw_ex 48 (.bool (!(isE m.pa))) rfl rfl rfl (fun a h => (run_binOp (h.ev rfl) (h.ev rfl) (eqStrG _ _ _ _ _ _) (strNeE _ _))) ?_)))
          iterate 3 refine fw_pu rfl ?_
          rcases Bool.eq_false_or_eq_true ((isE m.pa)) with hb_31 | hb_31
          · skip
            refine fw_kn 51 rfl (not_of hb_31) (fw_pu rfl (fw_ld r24 rfl rfl (fw_pu rfl (fw_kn 54 rfl hb_29 ?_))))
            iterate 5 refine fw_pu rfl ?_
            refine fw_dt (fw_cF rfl rfl (fw_sk ?_))
            refine ⟨fun a h => ?_⟩
            refine ow_then (hK27 _ _ ?_)
            refine wpSpine_seq rfl fun K hK32 => ?_
            refine fw_in h (fw_rg rfl (fw_pu rfl (fw_dn ?_)))
            refine ⟨fun a h => ?_⟩
            refine ow_then (hK32 _ _ ?_)
            refine wpSpine_label (HJ _ _ ?_)
            refine fw_in h (fw_sq (fw_rg rfl ?_))
            iterate 2 refine fw_pu rfl ?_
            refine fw_dt (fw_rt ?_)
            refine ⟨fun a h => ?_⟩
            refine ow_nogoto_ret ?_
            exact ow_ret1 rfl h.df (h.g 2 rfl) ⟨by (try unfold cnG); simp [hb_12, hb_13, hb_14, hb_19, hb_25, hb_26, hb_28, hb_29, hb_31], b23⟩
          refine fw_kn 51 rfl (not_of hb_31) ?_
          iterate 8 refine fw_pu rfl ?_
          refine fw_dt (fw_cT rfl rfl (fw_go ?_))
          refine ⟨fun a h => ?_⟩
          refine ow_then_goto (ow_jump (HJ _ _ ?_))
          refine fw_in h (fw_sq (fw_rg rfl ?_))
          iterate 2 refine fw_pu rfl ?_
          refine fw_dt (fw_rt ?_)
          refine ⟨fun a h => ?_⟩
          refine ow_nogoto_ret ?_
          exact ow_ret1 rfl h.df (h.g 2 rfl) ⟨by (try unfold cnG); simp [hb_12, hb_13, hb_14, hb_19, hb_25, hb_26, hb_28, hb_29, hb_31], b23⟩
        refine fw_kn 31 rfl (not_of hb_26) (fw_pu rfl (fw_ld r24 rfl rfl (fw_ex 34 (.bool (!(isE m.us))) rfl rfl rfl (fun a h => (run_binOp (h.ev rfl) (h.ev rfl) (eqStrG _ _ _ _ _ _) (strNeE _ _))) ?_)))
        iterate 2 refine fw_pu rfl ?_
        refine fw_dt ?_
        rcases Bool.eq_false_or_eq_true ((isE m.us)) with hb_33 | hb_33
        · skip
          refine fw_cF rfl (not_of hb_33) (fw_sk ?_)
          refine ⟨fun a h => ?_⟩
          refine ow_then (hK20 _ _ ?_)
          refine wpSpine_seq rfl fun K hK34 => ?_
          refine fw_in h (fw_sq (fw_rg rfl (fw_pu rfl (fw_ld r24 rfl rfl ?_))))
          iterate 3 refine fw_pu rfl ?_
          rcases Bool.eq_false_or_eq_true ((decide (64 < (m.pa.size : Int)))) with hb_35 | hb_35
          · skip
            refine fw_kn 41 rfl hb_35 ?_
            iterate 18 refine fw_pu rfl ?_
            refine fw_dt (fw_cT rfl rfl (fw_go ?_))
            refine ⟨fun a h => ?_⟩
            refine ow_then_goto (ow_jump (HJ _ _ ?_))
            refine fw_in h (fw_sq (fw_rg rfl ?_))
            iterate 2 refine fw_pu rfl ?_
            refine fw_dt (fw_rt ?_)
            refine ⟨fun a h => ?_⟩
            refine ow_nogoto_ret ?_
            exact ow_ret1 rfl h.df (h.g 2 rfl) ⟨by (try unfold cnG); simp [hb_12, hb_13, hb_14, hb_19, hb_25, hb_26, hb_33, hb_35], b23⟩
          refine fw_kn 41 rfl hb_35 (fw_pu rfl (fw_ld r24 rfl rfl ?_))
          iterate 2 refine fw_pu rfl ?_
          rcases Bool.eq_false_or_eq_true (m.hp) with hb_36 | hb_36
          · skip
            refine fw_kn 45 rfl (not_of hb_36) ?_
            iterate 7 refine fw_pu rfl ?_
            refine fw_ld r24 rfl rfl (fw_pu rfl (fw_kn 54 rfl hb_36 (fw_pu rfl (fw_ld r24 rfl rfl ?_))))
            iterate 3 refine fw_pu rfl ?_
            refine fw_dt (fw_cT rfl (not_of hb_26) (fw_go ?_))
            refine ⟨fun a h => ?_⟩
            refine ow_then_goto (ow_jump (HJ _ _ ?_))
            refine fw_in h (fw_sq (fw_rg rfl ?_))
            iterate 2 refine fw_pu rfl ?_
            refine fw_dt (fw_rt ?_)
            refine ⟨fun a h => ?_⟩
            refine ow_nogoto_ret ?_
            exact ow_ret1 rfl h.df (h.g 2 rfl) ⟨by (try unfold cnG); simp [hb_12, hb_13, hb_14, hb_19, hb_25, hb_26, hb_33, hb_35, hb_36], b23⟩
          refine fw_kn 45 rfl (not_of hb_36) (fw_pu rfl (fw_ld r24 rfl rfl (fw_ex 48 (.bool (!(isE m.pa))) rfl rfl rfl (fun a h => (run_binOp (h.ev rfl) (h.ev rfl) (eqStrG _ _ _ _ _ _) (strNeE _ _))) ?_)))
          iterate 3 refine fw_pu rfl ?_
          rcases Bool.eq_false_or_eq_true ((isE m.pa)) with hb_37 | hb_37
          · skip
            refine fw_kn 51 rfl (not_of hb_37) (fw_pu rfl (fw_ld r24 rfl rfl (fw_pu rfl (fw_kn 54 rfl hb_36 ?_))))
            iterate 5 refine fw_pu rfl ?_
            refine fw_dt (fw_cF rfl rfl (fw_sk ?_))
            refine ⟨fun a h => ?_⟩
            refine ow_then (hK34 _ _ ?_)
            refine wpSpine_seq rfl fun K hK38 => ?_
            refine fw_in h (fw_rg rfl (fw_pu rfl (fw_dn ?_)))
            refine ⟨fun a h => ?_⟩
            refine ow_then (hK38 _ _ ?_)
            refine wpSpine_label (HJ _ _ ?_)
            refine fw_in h (fw_sq (fw_rg rfl ?_))
            iterate 2 refine fw_pu rfl ?_
            refine fw_dt (fw_rt ?_)
            refine ⟨fun a h => ?_⟩
            refine ow_nogoto_ret ?_
            exact ow_ret1 rfl h.df (h.g 2 rfl) ⟨by (try unfold cnG); simp [hb_12, hb_13, hb_14, hb_19, hb_25, hb_26, hb_33, hb_35, hb_36, hb_37], b23⟩
          refine fw_kn 51 rfl (not_of hb_37) ?_
          iterate 8 refine fw_pu rfl ?_
          refine fw_dt (fw_cT rfl rfl (fw_go ?_))
          refine ⟨fun a h => ?_⟩
          refine ow_then_goto (ow_jump (HJ _ _ ?_))
          refine fw_in h (fw_sq (fw_rg rfl ?_))
          iterate 2 refine fw_pu rfl ?_
          refine fw_dt (fw_rt ?_)
          refine ⟨fun a h => ?_⟩
          refine ow_nogoto_ret ?_
          exact ow_ret1 rfl h.df (h.g 2 rfl) ⟨by (try unfold cnG); simp [hb_12, hb_13, hb_14, hb_19, hb_25, hb_26, hb_33, hb_35, hb_36, hb_37], b23⟩
        refine fw_cT rfl (not_of hb_33) (fw_go ?_)
        refine ⟨fun a h => ?_⟩
        refine ow_then_goto (ow_jump (HJ _ _ ?_))
        refine fw_in h (fw_sq (fw_rg rfl ?_))
        iterate 2 refine fw_pu rfl ?_
        refine fw_dt (fw_rt ?_)
        refine ⟨fun a h => ?_⟩
        refine ow_nogoto_ret ?_
        exact ow_ret1 rfl h.df (h.g 2 rfl) ⟨by (try unfold cnG); simp [hb_12, hb_13, hb_14, hb_19, hb_25, hb_26, hb_33], b23⟩
      refine fw_kn 27 rfl (not_of hb_25) ?_
      iterate 9 refine fw_pu rfl ?_
      refine fw_dt (fw_cT rfl rfl (fw_go ?_))
      refine ⟨fun a h => ?_⟩
      refine ow_then_goto (ow_jump (HJ _ _ ?_))
      refine fw_in h (fw_sq (fw_rg rfl ?_))
      iterate 2 refine fw_pu rfl ?_
      refine fw_dt (fw_rt ?_)
      refine ⟨fun a h => ?_⟩
      refine ow_nogoto_ret ?_
      exact ow_ret1 rfl h.df (h.g 2 rfl) ⟨by (try unfold cnG); simp [hb_12, hb_13, hb_14, hb_19, hb_25], b23⟩
    refine fw_cT rfl (not_of hb_19) (fw_go ?_)
    refine ⟨fun a h => ?_⟩
    refine ow_then_goto (ow_jump (HJ _ _ ?_))
    refine fw_in h (fw_sq (fw_rg rfl ?_))
    iterate 2 refine fw_pu rfl ?_
    refine fw_dt (fw_rt ?_)
    refine ⟨fun a h => ?_⟩
    refine ow_nogoto_ret ?_
    exact ow_ret1 rfl h.df (h.g 2 rfl) ⟨by (try unfold cnG); simp [hb_12, hb_13, hb_14, hb_19], b17⟩
  refine fw_kn 7 rfl (not_of hb_12) ?_
  iterate 15 refine fw_pu rfl ?_
  refine fw_dt (fw_cT rfl rfl (fw_go ?_))
  refine ⟨fun a h => ?_⟩
  refine ow_then_goto (ow_jump (HJ _ _ ?_))
  refine fw_in h (fw_sq (fw_rg rfl ?_))
  iterate 2 refine fw_pu rfl ?_
  refine fw_dt (fw_rt ?_)
  refine ⟨fun a h => ?_⟩
  refine ow_nogoto_ret ?_
  exact ow_ret1 rfl h.df (h.g 2 rfl) ⟨by (try unfold cnG); simp [hb_12], b10⟩
abbrev E0 : ByteArray := { data := #[] }
theorem E0_list : E0.toList = [] := ba_nil
theorem nil_dec {α : Type} [DecidableEq α] (l : List α) : decide (([] : List α) = l) = (((l.length : Nat) : Int) == 0) := by cases l <;> simp <;> omega
theorem nl_beq (l : List UInt8) : (([] : List UInt8) == l) = (l == []) := by cases l <;> rfl
theorem z_beq (n : Int) : ((0 : Int) == n) = (n == 0) := by rw [Bool.eq_iff_iff, beq_iff_eq, beq_iff_eq]; exact eq_comm
theorem f_beq (b : Bool) : (false == b) = !b := by cases b <;> rfl
def vaG (m : Mq) : Bool :=
  if m.k == 1 then cnG m else if m.k == 2 then decide (0 ≤ m.code) && (decide (m.code ≤ 5) && (!m.pres || m.code == 0)) else if m.k == 3 then pbG m
  else if (m.k == 4 || m.k == 5 || m.k == 6 || m.k == 7 || m.k == 11) then idG m.id
  else if m.k == 8 then idG m.id && (ctG m.ws.length && wsG m.ws) else if m.k == 9 then idG m.id && (ctG m.cs.length && csG m.cs) else if m.k == 10 then idG m.id && (ctG m.fs.length && fsG m.fs)
  else (m.k == 12 || m.k == 13 || m.k == 14)
def stG (m : Mq) : Mq :=
  if m.k == 1 then { m with cl := E0, clean := false, keep := 0, wI := false, wT := E0, wP := E0, wQ := 0, wR := false, us := E0, hu := false, pa := E0, hp := false }
  else if m.k == 2 then { m with pres := false, code := 0 }
  else if m.k == 3 then { m with top := E0, q := 0, re := false, pay := E0, dup := false, id := 0 }
  else if (m.k == 4 || m.k == 5 || m.k == 6 || m.k == 7 || m.k == 11) then { m with id := 0 }
  else if m.k == 8 then { m with id := 0, ws := [] } else if m.k == 9 then { m with id := 0, cs := [] } else if m.k == 10 then { m with id := 0, fs := [] }
  else m
def baG (m : Mq) : Bool := (stG m).noB
def mayG (m : Mq) : Bool := vaG m && baG m
theorem nilL (W : World) (n : Nat) : SlR W n (.slice none 0 0) [] := ⟨none, 0, rfl, Nat.le_refl _, Nat.zero_le _, fun _ => rfl, fun h => (h rfl).elim⟩
set_option maxRecDepth 100000 in
set_option maxHeartbeats 4000000 in
theorem validWishesG (l : List EWish) (a : Option Addr) (n c : Nat) (w : World) (hS : SlR w 2 (.slice a n c) (l.map rowWish)) (hl : l.length ≤ far) (hB : ∀ s ∈ l, s.f.size ≤ far) (hT : Tabs w) :
    Calls Tryd.prog 83 #[.slice a n c] w fun e w' => e = .returned (.bool (wsG l)) ∧ Below w.heap.size w w' := by
  obtain rfl : n = l.length := by have := slR_len hS; simpa using this
  have hb0 := Below.refl w.heap.size w
  have hl0 : l.length ≤ 140737488351232 := hl
  refine fw_en 22 [(0, .slice a l.length c)] Tryd.func83 rfl Tryd.ntmps83 rfl ⟨rfl, trivial⟩ ?_
  refine fw_sq (fw_rg rfl (fw_pu rfl (fw_dt (fw_sq (fw_sq (fw_rg rfl ?_))))))
  iterate 3 refine fw_pu rfl ?_
  refine fw_dt (fw_bk ?_)
  refine fw_lp (fun N K W => ∃ (i : Nat), N = l.length - i ∧ i ≤ l.length ∧ (l.take i).all wishG = true ∧ K = [(5, .slice a l.length c), (6, .int .i64 ((l.length : Nat) : Int)), (7, .int .i64 ((i : Nat) : Int))] ∧ Below w.heap.size w W) _ _ ⟨0, rfl, Nat.zero_le _, rfl, rfl, hb0⟩ ⟨rfl, rfl, (by first | rfl | (simp only [Look, cond, Nat.beq]; first | rfl | (congr 2; first | rfl | omega | (push_cast; omega)) | (simp; try omega))), trivial⟩ ?_
  rintro N _ W1 ⟨i, rfl, hil, hall, rfl, bW1⟩
  intro K3 hK3
  refine fw_sq (fw_rg rfl (fw_pu rfl (fw_dt (fw_sq ?_))))
  rcases Bool.eq_false_or_eq_true ((decide (((i : Nat) : Int) < ((l.length : Nat) : Int)))) with hb_4 | hb_4
  · skip
    refine fw_cT rfl hb_4 (fw_sk (fw_th (fw_sq (fw_bk (fw_sq ?_)))))
    have hiL : i < l.length := by have h := of_decide_eq_true hb_4; omega
    obtain ⟨x0, hx0⟩ : ∃ p, l[i]? = some p := ⟨_, List.getElem?_eq_getElem hiL⟩
    obtain ⟨bP, oP, rfl, hbP, hcP⟩ := slR_at hS (i := i) (q := rowWish x0) (by rw [List.getElem?_map, hx0]; rfl)
    have hsz := hB x0 (List.mem_of_getElem? hx0)
    have hsz0 : x0.f.size ≤ 140737488351232 := hsz
    refine fw_rg rfl ?_
    refine fw_ex 9 (.pointer (some ⟨bP, (oP + i * 2), none⟩)) rfl rfl rfl (fun a h => (run_indexOp (h.ev rfl) (h.ev rfl) (idxWs _ _ _ _ _ hiL _))) ?_
    refine fw_ex 10 (.agg #[.string x0.f, .int .i64 x0.q]) rfl rfl rfl (fun a h => (run_loadOp (h.ev rfl) (ldW2 (fun j u hj => (Below.cell bW1 (p := ⟨bP, oP + i * 2 + j, none⟩) hbP).trans (hcP j u hj))))) ?_
    refine fw_al (t := 93) (u := fun q => .pointer (some ⟨q, 0, none⟩)) 4 [.string { data := #[] }, .int .i64 0] rfl rfl rfl (fun a h => (run_allocOp (by simp [go_sem, Instr.alloc]))) ?_
    intro q5 W6 g9 s7 r8
    have := Nat.le_trans bW1.size g9
    have b10 := bW1.trans (s7.mono bW1.size)
    refine fw_st r8 rfl rfl ?_
    intro W11 s12 r13
    have b14 := below_chg b10 s12 (by omega) b10.size
    refine fw_dt (fw_sq (fw_rg rfl (fw_pu rfl (fw_ld r13 rfl rfl ?_))))
    refine fw_ca Tryd.func96 rfl rfl rfl ((isTextG x0.f 1 64 W11 (by omega) (hT.below b14))) ?_
    rintro _ V16 ⟨rfl, hb15⟩
    refine ⟨(.bool (txG x0.f 1 64)), rfl, ?_⟩
    have b17 := b14.trans (hb15.mono b14.size)
    have r18 := r13.below hb15
    iterate 2 refine fw_pu rfl ?_
    rcases Bool.eq_false_or_eq_true ((txG x0.f 1 64)) with hb_19 | hb_19
    · skip
      refine fw_kn 15 rfl (not_of hb_19) (fw_pu rfl (fw_ld r18 rfl rfl (fw_ca Tryd.func99 rfl rfl rfl ((isQoSG x0.q V16)) ?_)))
      rintro _ _ ⟨rfl, rfl⟩
      refine ⟨(.bool (qsG x0.q)), rfl, ?_⟩
      iterate 2 refine fw_pu rfl ?_
      refine fw_dt ?_
      rcases Bool.eq_false_or_eq_true ((qsG x0.q)) with hb_20 | hb_20
      · skip
        refine fw_cF rfl (not_of hb_20) (fw_sk (fw_bn (fw_th (fw_rg rfl ?_))))
        refine fw_ex 21 (.int .i64 (((i + 1) : Nat) : Int)) rfl rfl rfl (fun a h => (run_binOp (h.ev rfl) (h.ev rfl) (by simp [go_sem]) (addIw _ _ _ _ (by omega) (by omega) (by omega)))) ?_
        refine fw_pu rfl (fw_dn ?_)
        exact fw_th (fw_gf (hK3 _ _ _ (by omega) ⟨(i + 1), rfl, hiL, (all_take hall hx0 (by unfold wishG; simp [hb_19, hb_20])), rfl, b17⟩) ⟨(by first | rfl | (simp only [Look, cond, Nat.beq]; first | rfl | (congr 2; first | rfl | omega | (push_cast; omega)) | (simp; try omega))), rfl, (by first | rfl | (simp only [Look, cond, Nat.beq]; first | rfl | (congr 2; first | rfl | omega | (push_cast; omega)) | (simp; try omega))), trivial⟩)
      refine fw_cT rfl (not_of hb_20) (fw_sq (fw_rg rfl (fw_pu rfl (fw_dt (fw_rt (fw_br ?_))))))
      iterate 2 refine fw_tr ?_
      refine fw_br (fw_tr ?_)
      refine ⟨fun a h => ?_⟩
      exact ow_ret1 rfl h.df (h.g 2 rfl) ⟨by unfold wsG; rw [all_no hx0 (by unfold wishG; simp [hb_19, hb_20])], b17⟩
    refine fw_kn 15 rfl (not_of hb_19) ?_
    iterate 5 refine fw_pu rfl ?_
    refine fw_dt (fw_cT rfl rfl (fw_sq (fw_rg rfl (fw_pu rfl (fw_dt (fw_rt (fw_br ?_)))))))
    iterate 2 refine fw_tr ?_
    refine fw_br (fw_tr ?_)
    refine ⟨fun a h => ?_⟩
    exact ow_ret1 rfl h.df (h.g 2 rfl) ⟨by unfold wsG; rw [all_no hx0 (by unfold wishG; simp [hb_19])], b17⟩
  refine fw_cF rfl hb_4 (fw_xt (fw_te (fw_te (fw_be (fw_th (fw_sq (fw_rg rfl (fw_pu rfl (fw_dt (fw_rt ?_))))))))))
  refine ⟨fun a h => ?_⟩
  have hi : i = l.length := by have h := of_decide_eq_false hb_4; omega
  rw [hi, List.take_length] at hall
  exact ow_ret1 rfl h.df (h.g 2 rfl) ⟨by unfold wsG; rw [hall], bW1⟩
set_option maxRecDepth 100000 in
set_option maxHeartbeats 4000000 in
theorem validCodesG (l : List Int) (a : Option Addr) (n c : Nat) (w : World) (hS : SlR w 1 (.slice a n c) (l.map cn)) (hl : l.length ≤ far) :
    Calls Tryd.prog 84 #[.slice a n c] w fun e w' => e = .returned (.bool (csG l)) ∧ Below w.heap.size w w' := by
  obtain rfl : n = l.length := by have := slR_len hS; simpa using this
  have hb0 := Below.refl w.heap.size w
  have hl0 : l.length ≤ 140737488351232 := hl
  refine fw_en 19 [(0, .slice a l.length c)] Tryd.func84 rfl Tryd.ntmps84 rfl ⟨rfl, trivial⟩ ?_
  refine fw_sq (fw_rg rfl (fw_pu rfl (fw_dt (fw_sq (fw_sq (fw_rg rfl ?_))))))
  iterate 3 refine fw_pu rfl ?_
  refine fw_dt (fw_bk ?_)
  refine fw_lp (fun N K W => ∃ (i : Nat), N = l.length - i ∧ i ≤ l.length ∧ (l.take i).all codeG = true ∧ K = [(5, .slice a l.length c), (6, .int .i64 ((l.length : Nat) : Int)), (7, .int .i64 ((i : Nat) : Int))] ∧ Below w.heap.size w W) _ _ ⟨0, rfl, Nat.zero_le _, rfl, rfl, hb0⟩ ⟨rfl, rfl, (by first | rfl | (simp only [Look, cond, Nat.beq]; first | rfl | (congr 2; first | rfl | omega | (push_cast; omega)) | (simp; try omega))), trivial⟩ ?_
  rintro N _ W1 ⟨i, rfl, hil, hall, rfl, bW1⟩
  intro K3 hK3
  refine fw_sq (fw_rg rfl (fw_pu rfl (fw_dt (fw_sq ?_))))
  rcases Bool.eq_false_or_eq_true ((decide (((i : Nat) : Int) < ((l.length : Nat) : Int)))) with hb_4 | hb_4
  · skip
    refine fw_cT rfl hb_4 (fw_sk (fw_th (fw_sq (fw_bk (fw_sq ?_)))))
    have hiL : i < l.length := by have h := of_decide_eq_true hb_4; omega
    obtain ⟨x0, hx0⟩ : ∃ p, l[i]? = some p := ⟨_, List.getElem?_eq_getElem hiL⟩
    obtain ⟨bP, oP, rfl, hbP, hcP⟩ := slR_at hS (i := i) (q := cn x0) (by rw [List.getElem?_map, hx0]; rfl)
    refine fw_rg rfl ?_
    refine fw_ex 9 (.pointer (some ⟨bP, (oP + i * 1), none⟩)) rfl rfl rfl (fun a h => (run_indexOp (h.ev rfl) (h.ev rfl) (idxIs _ _ _ _ _ hiL _))) ?_
    refine fw_ex 10 (.int .i64 x0) rfl rfl rfl (fun a h => (run_loadOp (h.ev rfl) (ldI1 ((Below.cell bW1 (p := ⟨bP, oP + i * 1, none⟩) hbP).trans (hcP 0 _ rfl))))) ?_
    refine fw_pu rfl (fw_dt (fw_sq (fw_rg rfl (fw_pu rfl (fw_ca Tryd.func99 rfl rfl rfl ((isQoSG x0 W1)) ?_)))))
    rintro _ _ ⟨rfl, rfl⟩
    refine ⟨(.bool (qsG x0)), rfl, ?_⟩
    iterate 2 refine fw_pu rfl ?_
    rcases Bool.eq_false_or_eq_true ((qsG x0)) with hb_5 | hb_5
    · skip
      refine fw_kn 14 rfl (not_of hb_5) ?_
      iterate 3 refine fw_pu rfl ?_
      refine fw_dt (fw_cF rfl rfl (fw_sk (fw_bn (fw_th (fw_rg rfl ?_)))))
      refine fw_ex 18 (.int .i64 (((i + 1) : Nat) : Int)) rfl rfl rfl (fun a h => (run_binOp (h.ev rfl) (h.ev rfl) (by simp [go_sem]) (addIw _ _ _ _ (by omega) (by omega) (by omega)))) ?_
      refine fw_pu rfl (fw_dn ?_)
      exact fw_th (fw_gf (hK3 _ _ _ (by omega) ⟨(i + 1), rfl, hiL, (all_take hall hx0 (by unfold codeG; simp [hb_5])), rfl, bW1⟩) ⟨(by first | rfl | (simp only [Look, cond, Nat.beq]; first | rfl | (congr 2; first | rfl | omega | (push_cast; omega)) | (simp; try omega))), rfl, (by first | rfl | (simp only [Look, cond, Nat.beq]; first | rfl | (congr 2; first | rfl | omega | (push_cast; omega)) | (simp; try omega))), trivial⟩)
    refine fw_kn 14 rfl (not_of hb_5) ?_
    iterate 3 refine fw_pu rfl ?_
    refine fw_dt ?_
    rcases Bool.eq_false_or_eq_true ((x0 == 128)) with hb_6 | hb_6
    · skip
      refine fw_cF rfl (not_of hb_6) (fw_sk (fw_bn (fw_th (fw_rg rfl ?_))))
      refine fw_ex 18 (.int .i64 (((i + 1) : Nat) : Int)) rfl rfl rfl (fun a h => (run_binOp (h.ev rfl) (h.ev rfl) (by simp [go_sem]) (addIw _ _ _ _ (by omega) (by omega) (by omega)))) ?_
      refine fw_pu rfl (fw_dn ?_)
      exact fw_th (fw_gf (hK3 _ _ _ (by omega) ⟨(i + 1), rfl, hiL, (all_take hall hx0 (by unfold codeG; simp [hb_5, hb_6])), rfl, bW1⟩) ⟨(by first | rfl | (simp only [Look, cond, Nat.beq]; first | rfl | (congr 2; first | rfl | omega | (push_cast; omega)) | (simp; try omega))), rfl, (by first | rfl | (simp only [Look, cond, Nat.beq]; first | rfl | (congr 2; first | rfl | omega | (push_cast; omega)) | (simp; try omega))), trivial⟩)
    refine fw_cT rfl (not_of hb_6) (fw_sq (fw_rg rfl (fw_pu rfl (fw_dt (fw_rt (fw_br ?_))))))
    iterate 2 refine fw_tr ?_
    refine fw_br (fw_tr ?_)
    refine ⟨fun a h => ?_⟩
    exact ow_ret1 rfl h.df (h.g 2 rfl) ⟨by unfold csG; rw [all_no hx0 (by unfold codeG; simp [hb_5, hb_6])], bW1⟩
  refine fw_cF rfl hb_4 (fw_xt (fw_te (fw_te (fw_be (fw_th (fw_sq (fw_rg rfl (fw_pu rfl (fw_dt (fw_rt ?_))))))))))
  refine ⟨fun a h => ?_⟩
  have hi : i = l.length := by have h := of_decide_eq_false hb_4; omega
  rw [hi, List.take_length] at hall
  exact ow_ret1 rfl h.df (h.g 2 rfl) ⟨by unfold csG; rw [hall], bW1⟩
set_option maxRecDepth 100000 in
set_option maxHeartbeats 4000000 in
theorem validFiltersG (l : List ByteArray) (a : Option Addr) (n c : Nat) (w : World) (hS : SlR w 1 (.slice a n c) (l.map cs1)) (hl : l.length ≤ far) (hB : ∀ s ∈ l, s.size ≤ far) (hT : Tabs w) :
    Calls Tryd.prog 85 #[.slice a n c] w fun e w' => e = .returned (.bool (fsG l)) ∧ Below w.heap.size w w' := by
  obtain rfl : n = l.length := by have := slR_len hS; simpa using this
  have hb0 := Below.refl w.heap.size w
  have hl0 : l.length ≤ 140737488351232 := hl
  refine fw_en 15 [(0, .slice a l.length c)] Tryd.func85 rfl Tryd.ntmps85 rfl ⟨rfl, trivial⟩ ?_
  refine fw_sq (fw_rg rfl (fw_pu rfl (fw_dt (fw_sq (fw_sq (fw_rg rfl ?_))))))
  iterate 3 refine fw_pu rfl ?_
  refine fw_dt (fw_bk ?_)
  refine fw_lp (fun N K W => ∃ (i : Nat), N = l.length - i ∧ i ≤ l.length ∧ (l.take i).all filtG = true ∧ K = [(5, .slice a l.length c), (6, .int .i64 ((l.length : Nat) : Int)), (7, .int .i64 ((i : Nat) : Int))] ∧ Below w.heap.size w W) _ _ ⟨0, rfl, Nat.zero_le _, rfl, rfl, hb0⟩ ⟨rfl, rfl, (by first | rfl | (simp only [Look, cond, Nat.beq]; first | rfl | (congr 2; first | rfl | omega | (push_cast; omega)) | (simp; try omega))), trivial⟩ ?_
  rintro N _ W1 ⟨i, rfl, hil, hall, rfl, bW1⟩
  intro K3 hK3
  refine fw_sq (fw_rg rfl (fw_pu rfl (fw_dt (fw_sq ?_))))
  rcases Bool.eq_false_or_eq_true ((decide (((i : Nat) : Int) < ((l.length : Nat) : Int)))) with hb_4 | hb_4
  · skip
    refine fw_cT rfl hb_4 (fw_sk (fw_th (fw_sq (fw_bk (fw_sq ?_)))))
    have hiL : i < l.length := by have h := of_decide_eq_true hb_4; omega
    obtain ⟨x0, hx0⟩ : ∃ p, l[i]? = some p := ⟨_, List.getElem?_eq_getElem hiL⟩
    obtain ⟨bP, oP, rfl, hbP, hcP⟩ := slR_at hS (i := i) (q := cs1 x0) (by rw [List.getElem?_map, hx0]; rfl)
    have hsz := hB x0 (List.mem_of_getElem? hx0)
    have hsz0 : x0.size ≤ 140737488351232 := hsz
    refine fw_rg rfl ?_
    refine fw_ex 9 (.pointer (some ⟨bP, (oP + i * 1), none⟩)) rfl rfl rfl (fun a h => (run_indexOp (h.ev rfl) (h.ev rfl) (idxSs _ _ _ _ _ hiL _))) ?_
    refine fw_ex 10 (.string x0) rfl rfl rfl (fun a h => (run_loadOp (h.ev rfl) (ldS1 ((Below.cell bW1 (p := ⟨bP, oP + i * 1, none⟩) hbP).trans (hcP 0 _ rfl))))) ?_
    refine fw_pu rfl (fw_dt (fw_sq (fw_rg rfl (fw_pu rfl ?_))))
    refine fw_ca Tryd.func96 rfl rfl rfl ((isTextG x0 1 64 W1 (by omega) (hT.below bW1))) ?_
    rintro _ V6 ⟨rfl, hb5⟩
    refine ⟨(.bool (txG x0 1 64)), rfl, ?_⟩
    have b7 := bW1.trans (hb5.mono bW1.size)
    refine fw_pu rfl (fw_dt ?_)
    rcases Bool.eq_false_or_eq_true ((txG x0 1 64)) with hb_8 | hb_8
    · skip
      refine fw_cF rfl (not_of hb_8) (fw_sk (fw_bn (fw_th (fw_rg rfl ?_))))
      refine fw_ex 14 (.int .i64 (((i + 1) : Nat) : Int)) rfl rfl rfl (fun a h => (run_binOp (h.ev rfl) (h.ev rfl) (by simp [go_sem]) (addIw _ _ _ _ (by omega) (by omega) (by omega)))) ?_
      refine fw_pu rfl (fw_dn ?_)
      exact fw_th (fw_gf (hK3 _ _ _ (by omega) ⟨(i + 1), rfl, hiL, (all_take hall hx0 (by unfold filtG; simp [hb_8])), rfl, b7⟩) ⟨(by first | rfl | (simp only [Look, cond, Nat.beq]; first | rfl | (congr 2; first | rfl | omega | (push_cast; omega)) | (simp; try omega))), rfl, (by first | rfl | (simp only [Look, cond, Nat.beq]; first | rfl | (congr 2; first | rfl | omega | (push_cast; omega)) | (simp; try omega))), trivial⟩)
    refine fw_cT rfl (not_of hb_8) (fw_sq (fw_rg rfl (fw_pu rfl (fw_dt (fw_rt (fw_br ?_))))))
    iterate 2 refine fw_tr ?_
    refine fw_br (fw_tr ?_)
    refine ⟨fun a h => ?_⟩
    exact ow_ret1 rfl h.df (h.g 2 rfl) ⟨by unfold fsG; rw [all_no hx0 (by unfold filtG; simp [hb_8])], b7⟩
  refine fw_cF rfl hb_4 (fw_xt (fw_te (fw_te (fw_be (fw_th (fw_sq (fw_rg rfl (fw_pu rfl (fw_dt (fw_rt ?_))))))))))
  refine ⟨fun a h => ?_⟩
  have hi : i = l.length := by have h := of_decide_eq_false hb_4; omega
  rw [hi, List.take_length] at hall
  exact ow_ret1 rfl h.df (h.g 2 rfl) ⟨by unfold fsG; rw [hall], bW1⟩
set_option maxRecDepth 100000 in
set_option maxHeartbeats 4000000 in
theorem validG (m : Mq) (ac aw af : Option Addr) (nc nw nf cc cw cf : Nat) (w : World) (hL : m.Lists w (.slice ac nc cc) (.slice aw nw cw) (.slice af nf cf)) (hF : m.Far) (hT : Tabs w) :
    Calls Tryd.prog 59 #[.agg (Mq.row m (.slice ac nc cc) (.slice aw nw cw) (.slice af nf cf)).toArray] w fun e w' => e = .returned (.bool (vaG m)) ∧ Below w.heap.size w w' := by
  obtain rfl : nc = m.cs.length := by have := slR_len hL.c; simpa using this
  obtain rfl : nw = m.ws.length := by have := slR_len hL.w; simpa using this
  obtain rfl : nf = m.fs.length := by have := slR_len hL.f; simpa using this
  have hb0 := Below.refl w.heap.size w
  have hF0 : m.cl.size ≤ 140737488351232 := hF.cl
  have hF1 : m.wT.size ≤ 140737488351232 := hF.wT
  have hF2 : m.wP.size ≤ 140737488351232 := hF.wP
  have hF3 : m.us.size ≤ 140737488351232 := hF.us
  have hF4 : m.pa.size ≤ 140737488351232 := hF.pa
  have hF5 : m.top.size ≤ 140737488351232 := hF.top
  have hF6 : m.pay.size ≤ 140737488351232 := hF.pay
  refine fw_en 94 [(0, .agg (Mq.row m (.slice ac m.cs.length cc) (.slice aw m.ws.length cw) (.slice af m.fs.length cf)).toArray)] Tryd.func59 rfl Tryd.ntmps59 rfl ⟨rfl, trivial⟩ ?_
  refine fw_sq (fw_rg rfl (fw_bx rfl (cs := [.int .i64 m.k, .string m.cl, .bool m.clean, .int .i64 m.keep, .bool m.wI, .string m.wT, .string m.wP, .int .i64 m.wQ, .bool m.wR, .string m.us, .bool m.hu, .string m.pa, .bool m.hp, .bool m.pres, .int .i64 m.code, .slice ac m.cs.length cc, .bool m.dup, .int .i64 m.q, .bool m.re, .string m.top, .int .i64 m.id, .string m.pay, .slice aw m.ws.length cw, .slice af m.fs.length cf]) rfl ?_))
  intro q1 W2 g5 s3 r4
  have := Nat.le_trans hb0.size g5
  have b6 := hb0.trans (s3.mono hb0.size)
  refine fw_pu rfl (fw_dt (fw_sq (fw_sq (fw_rg rfl (fw_pu rfl (fw_ld r4 rfl rfl (fw_dt (fw_bk (fw_sq (fw_rg rfl ?_))))))))))
  iterate 2 refine fw_pu rfl ?_
  refine fw_dt ?_
  rcases Bool.eq_false_or_eq_true ((m.k == 1)) with hb_7 | hb_7
  · skip
    refine fw_cT rfl hb_7 (fw_sq (fw_rg rfl (fw_ld r4 rfl rfl (fw_ca Tryd.func79 rfl rfl rfl ((validConnectG m ac aw af _ _ _ cc cw cf W2 hF (hT.below b6))) ?_))))
    rintro _ V9 ⟨rfl, hb8⟩
    refine ⟨(.bool (cnG m)), rfl, ?_⟩
    have b10 := b6.trans (hb8.mono b6.size)
    have r11 := r4.below hb8
    refine fw_pu rfl (fw_dt (fw_rt (fw_br (fw_tr ?_))))
    refine ⟨fun a h => ?_⟩
    exact ow_ret1 rfl h.df (h.g 2 rfl) ⟨by (try unfold vaG); simp [hb_7], b10⟩
  refine fw_cF rfl hb_7 (fw_sq (fw_rg rfl ?_))
  iterate 2 refine fw_pu rfl ?_
  refine fw_dt ?_
  rcases Bool.eq_false_or_eq_true ((m.k == 2)) with hb_12 | hb_12
  · skip
    refine fw_cT rfl hb_12 (fw_sq (fw_rg rfl (fw_pu rfl (fw_ld r4 rfl rfl ?_))))
    iterate 2 refine fw_pu rfl ?_
    rcases Bool.eq_false_or_eq_true ((decide (0 ≤ m.code))) with hb_13 | hb_13
    · skip
      refine fw_kn 14 rfl hb_13 (fw_pu rfl (fw_ld r4 rfl rfl ?_))
      iterate 3 refine fw_pu rfl ?_
      rcases Bool.eq_false_or_eq_true ((decide (m.code ≤ 5))) with hb_14 | hb_14
      · skip
        refine fw_kn 19 rfl hb_14 (fw_pu rfl (fw_ld r4 rfl rfl ?_))
        iterate 2 refine fw_pu rfl ?_
        rcases Bool.eq_false_or_eq_true (m.pres) with hb_15 | hb_15
        · skip
          refine fw_kn 23 rfl (not_of hb_15) (fw_pu rfl (fw_ld r4 rfl rfl ?_))
          iterate 4 refine fw_pu rfl ?_
          refine fw_dt (fw_rt (fw_br (fw_tr ?_)))
          refine ⟨fun a h => ?_⟩
          exact ow_ret1 rfl h.df (h.g 2 rfl) ⟨by (try unfold vaG); simp [hb_7, hb_12, hb_13, hb_14, hb_15], b6⟩
        refine fw_kn 23 rfl (not_of hb_15) ?_
        iterate 6 refine fw_pu rfl ?_
        refine fw_dt (fw_rt (fw_br (fw_tr ?_)))
        refine ⟨fun a h => ?_⟩
        exact ow_ret1 rfl h.df (h.g 2 rfl) ⟨by (try unfold vaG); simp [hb_7, hb_12, hb_13, hb_14, hb_15], b6⟩
      refine fw_kn 19 rfl hb_14 ?_
      iterate 10 refine fw_pu rfl ?_
      refine fw_dt (fw_rt (fw_br (fw_tr ?_)))
      refine ⟨fun a h => ?_⟩
      exact ow_ret1 rfl h.df (h.g 2 rfl) ⟨by (try unfold vaG); simp [hb_7, hb_12, hb_13, hb_14], b6⟩
    refine fw_kn 14 rfl hb_13 ?_
    iterate 15 refine fw_pu rfl ?_
    refine fw_dt (fw_rt (fw_br (fw_tr ?_)))
    refine ⟨fun a h => ?_⟩
    exact ow_ret1 rfl h.df (h.g 2 rfl) ⟨by (try unfold vaG); simp [hb_7, hb_12, hb_13], b6⟩
  refine fw_cF rfl hb_12 (fw_sq (fw_rg rfl ?_))
  iterate 2 refine fw_pu rfl ?_
  refine fw_dt ?_
  rcases Bool.eq_false_or_eq_true ((m.k == 3)) with hb_16 | hb_16
  · skip
    refine fw_cT rfl hb_16 (fw_sq (fw_rg rfl (fw_ld r4 rfl rfl (fw_ca Tryd.func80 rfl rfl rfl ((validPublishG m ac aw af _ _ _ cc cw cf W2 hF (hT.below b6))) ?_))))
    rintro _ V18 ⟨rfl, hb17⟩
    refine ⟨(.bool (pbG m)), rfl, ?_⟩
    have b19 := b6.trans (hb17.mono b6.size)
    have r20 := r4.below hb17
    refine fw_pu rfl (fw_dt (fw_rt (fw_br (fw_tr ?_))))
    refine ⟨fun a h => ?_⟩
    exact ow_ret1 rfl h.df (h.g 2 rfl) ⟨by (try unfold vaG); simp [hb_7, hb_12, hb_16], b19⟩
  refine fw_cF rfl hb_16 (fw_sq (fw_sq (fw_rg rfl ?_)))
  iterate 2 refine fw_pu rfl ?_
  refine fw_dt ?_
  rcases Bool.eq_false_or_eq_true ((m.k == 4)) with hb_21 | hb_21
  · skip
    refine fw_cT rfl hb_21 (fw_sk (fw_th (fw_cT rfl hb_21 (fw_sq (fw_rg rfl (fw_pu rfl (fw_ld r4 rfl rfl (fw_ca Tryd.func81 rfl rfl rfl ((isIDG m.id W2)) ?_))))))))
    rintro _ _ ⟨rfl, rfl⟩
    refine ⟨(.bool (idG m.id)), rfl, ?_⟩
    refine fw_pu rfl (fw_dt (fw_rt (fw_br (fw_tr ?_))))
    refine ⟨fun a h => ?_⟩
    exact ow_ret1 rfl h.df (h.g 2 rfl) ⟨by (try unfold vaG); simp [hb_7, hb_12, hb_16, hb_21], b6⟩
  refine fw_cF rfl hb_21 (fw_sq (fw_rg rfl ?_))
  iterate 2 refine fw_pu rfl ?_
  refine fw_dt ?_
  rcases Bool.eq_false_or_eq_true ((m.k == 5)) with hb_22 | hb_22
  · skip
    refine fw_cT rfl hb_22 (fw_sk (fw_th (fw_cT rfl hb_22 (fw_sq (fw_rg rfl (fw_pu rfl (fw_ld r4 rfl rfl (fw_ca Tryd.func81 rfl rfl rfl ((isIDG m.id W2)) ?_))))))))
    rintro _ _ ⟨rfl, rfl⟩
    refine ⟨(.bool (idG m.id)), rfl, ?_⟩
    refine fw_pu rfl (fw_dt (fw_rt (fw_br (fw_tr ?_))))
    refine ⟨fun a h => ?_⟩
    exact ow_ret1 rfl h.df (h.g 2 rfl) ⟨by (try unfold vaG); simp [hb_7, hb_12, hb_16, hb_21, hb_22], b6⟩
  refine fw_cF rfl hb_22 (fw_sq (fw_rg rfl ?_))
  iterate 2 refine fw_pu rfl ?_
  refine fw_dt ?_
  rcases Bool.eq_false_or_eq_true ((m.k == 6)) with hb_23 | hb_23
  · skip
    refine fw_cT rfl hb_23 (fw_sk (fw_th (fw_cT rfl hb_23 (fw_sq (fw_rg rfl (fw_pu rfl (fw_ld r4 rfl rfl (fw_ca Tryd.func81 rfl rfl rfl ((isIDG m.id W2)) ?_))))))))
    rintro _ _ ⟨rfl, rfl⟩
    refine ⟨(.bool (idG m.id)), rfl, ?_⟩
    refine fw_pu rfl (fw_dt (fw_rt (fw_br (fw_tr ?_))))
    refine ⟨fun a h => ?_⟩
    exact ow_ret1 rfl h.df (h.g 2 rfl) ⟨by (try unfold vaG); simp [hb_7, hb_12, hb_16, hb_21, hb_22, hb_23], b6⟩
  refine fw_cF rfl hb_23 (fw_sq (fw_rg rfl ?_))
  iterate 2 refine fw_pu rfl ?_
  refine fw_dt ?_
  rcases Bool.eq_false_or_eq_true ((m.k == 7)) with hb_24 | hb_24
  · skip
    refine fw_cT rfl hb_24 (fw_sk (fw_th (fw_cT rfl hb_24 (fw_sq (fw_rg rfl (fw_pu rfl (fw_ld r4 rfl rfl (fw_ca Tryd.func81 rfl rfl rfl ((isIDG m.id W2)) ?_))))))))
    rintro _ _ ⟨rfl, rfl⟩
    refine ⟨(.bool (idG m.id)), rfl, ?_⟩
    refine fw_pu rfl (fw_dt (fw_rt (fw_br (fw_tr ?_))))
    refine ⟨fun a h => ?_⟩
    exact ow_ret1 rfl h.df (h.g 2 rfl) ⟨by (try unfold vaG); simp [hb_7, hb_12, hb_16, hb_21, hb_22, hb_23, hb_24], b6⟩
  refine fw_cF rfl hb_24 (fw_rg rfl ?_)
  iterate 2 refine fw_pu rfl ?_
  refine fw_dt ?_
  rcases Bool.eq_false_or_eq_true ((m.k == 11)) with hb_25 | hb_25
  · skip
    refine fw_cT rfl hb_25 (fw_sq (fw_rg rfl (fw_pu rfl (fw_ld r4 rfl rfl (fw_ca Tryd.func81 rfl rfl rfl ((isIDG m.id W2)) ?_)))))
    rintro _ _ ⟨rfl, rfl⟩
    refine ⟨(.bool (idG m.id)), rfl, ?_⟩
    refine fw_pu rfl (fw_dt (fw_rt (fw_br (fw_tr ?_))))
    refine ⟨fun a h => ?_⟩
    exact ow_ret1 rfl h.df (h.g 2 rfl) ⟨by (try unfold vaG); simp [hb_7, hb_12, hb_16, hb_21, hb_22, hb_23, hb_24, hb_25], b6⟩
  refine fw_cF rfl hb_25 (fw_sq (fw_rg rfl ?_))
  iterate 2 refine fw_pu rfl ?_
  refine fw_dt ?_
  rcases Bool.eq_false_or_eq_true ((m.k == 8)) with hb_26 | hb_26
  · skip
    refine fw_cT rfl hb_26 (fw_sq (fw_rg rfl (fw_pu rfl (fw_ld r4 rfl rfl (fw_ca Tryd.func81 rfl rfl rfl ((isIDG m.id W2)) ?_)))))
    rintro _ _ ⟨rfl, rfl⟩
    refine ⟨(.bool (idG m.id)), rfl, ?_⟩
    refine fw_pu rfl ?_
    rcases Bool.eq_false_or_eq_true ((idG m.id)) with hb_27 | hb_27
    · skip
      refine fw_kn 47 rfl hb_27 (fw_pu rfl (fw_ld r4 rfl rfl (fw_pu rfl (fw_ca Tryd.func82 rfl rfl rfl ((isCountG ((m.ws.length : Nat) : Int) W2)) ?_))))
      rintro _ _ ⟨rfl, rfl⟩
      refine ⟨(.bool (ctG ((m.ws.length : Nat) : Int))), rfl, ?_⟩
      iterate 2 refine fw_pu rfl ?_
      rcases Bool.eq_false_or_eq_true ((ctG ((m.ws.length : Nat) : Int))) with hb_28 | hb_28
      · skip
        refine fw_kn 53 rfl hb_28 (fw_pu rfl (fw_ld r4 rfl rfl (fw_ca Tryd.func83 rfl rfl rfl ((validWishesG m.ws aw _ cw W2 (hL.w.below b6) hF.ws hF.wsf (hT.below b6))) ?_)))
        rintro _ V30 ⟨rfl, hb29⟩
        refine ⟨(.bool (wsG m.ws)), rfl, ?_⟩
        have b31 := b6.trans (hb29.mono b6.size)
        have r32 := r4.below hb29
        iterate 2 refine fw_pu rfl ?_
        refine fw_dt (fw_rt (fw_br (fw_tr ?_)))
        refine ⟨fun a h => ?_⟩
        exact ow_ret1 rfl h.df (h.g 2 rfl) ⟨by (try unfold vaG); simp [hb_7, hb_12, hb_16, hb_21, hb_22, hb_23, hb_24, hb_25, hb_26, hb_27, hb_28], b31⟩
      refine fw_kn 53 rfl hb_28 ?_
      iterate 5 refine fw_pu rfl ?_
      refine fw_dt (fw_rt (fw_br (fw_tr ?_)))
      refine ⟨fun a h => ?_⟩
      exact ow_ret1 rfl h.df (h.g 2 rfl) ⟨by (try unfold vaG); simp [hb_7, hb_12, hb_16, hb_21, hb_22, hb_23, hb_24, hb_25, hb_26, hb_27, hb_28], b6⟩
    refine fw_kn 47 rfl hb_27 ?_
    iterate 11 refine fw_pu rfl ?_
    refine fw_dt (fw_rt (fw_br (fw_tr ?_)))
    refine ⟨fun a h => ?_⟩
    exact ow_ret1 rfl h.df (h.g 2 rfl) ⟨by (try unfold vaG); simp [hb_7, hb_12, hb_16, hb_21, hb_22, hb_23, hb_24, hb_25, hb_26, hb_27], b6⟩
  refine fw_cF rfl hb_26 (fw_sq (fw_rg rfl ?_))
  iterate 2 refine fw_pu rfl ?_
  refine fw_dt ?_
  rcases Bool.eq_false_or_eq_true ((m.k == 9)) with hb_33 | hb_33
  · skip
    refine fw_cT rfl hb_33 (fw_sq (fw_rg rfl (fw_pu rfl (fw_ld r4 rfl rfl (fw_ca Tryd.func81 rfl rfl rfl ((isIDG m.id W2)) ?_)))))
    rintro _ _ ⟨rfl, rfl⟩
    refine ⟨(.bool (idG m.id)), rfl, ?_⟩
    refine fw_pu rfl ?_
    rcases Bool.eq_false_or_eq_true ((idG m.id)) with hb_34 | hb_34
    · skip
      refine fw_kn 63 rfl hb_34 (fw_pu rfl (fw_ld r4 rfl rfl (fw_pu rfl (fw_ca Tryd.func82 rfl rfl rfl ((isCountG ((m.cs.length : Nat) : Int) W2)) ?_))))
      rintro _ _ ⟨rfl, rfl⟩
      refine ⟨(.bool (ctG ((m.cs.length : Nat) : Int))), rfl, ?_⟩
      iterate 2 refine fw_pu rfl ?_
      rcases Bool.eq_false_or_eq_true ((ctG ((m.cs.length : Nat) : Int))) with hb_35 | hb_35
      · skip
        refine fw_kn 69 rfl hb_35 (fw_pu rfl (fw_ld r4 rfl rfl (fw_ca Tryd.func84 rfl rfl rfl ((validCodesG m.cs ac _ cc W2 (hL.c.below b6) hF.cs)) ?_)))
        rintro _ V37 ⟨rfl, hb36⟩
        refine ⟨(.bool (csG m.cs)), rfl, ?_⟩
        have b38 := b6.trans (hb36.mono b6.size)
        have r39 := r4.below hb36
        iterate 2 refine fw_pu rfl ?_
        refine fw_dt (fw_rt (fw_br (fw_tr ?_)))
        refine ⟨fun a h => ?_⟩
        exact ow_ret1 rfl h.df (h.g 2 rfl) ⟨by (try unfold vaG); simp [hb_7, hb_12, hb_16, hb_21, hb_22, hb_23, hb_24, hb_25, hb_26, hb_33, hb_34, hb_35], b38⟩
      refine fw_kn 69 rfl hb_35 ?_
      iterate 5 refine fw_pu rfl ?_
      refine fw_dt (fw_rt (fw_br (fw_tr ?_)))
      refine ⟨fun a h => ?_⟩
      exact ow_ret1 rfl h.df (h.g 2 rfl) ⟨by (try unfold vaG); simp [hb_7, hb_12, hb_16, hb_21, hb_22, hb_23, hb_24, hb_25, hb_26, hb_33, hb_34, hb_35], b6⟩
    refine fw_kn 63 rfl hb_34 ?_
    iterate 11 refine fw_pu rfl ?_
    refine fw_dt (fw_rt (fw_br (fw_tr ?_)))
    refine ⟨fun a h => ?_⟩
    exact ow_ret1 rfl h.df (h.g 2 rfl) ⟨by (try unfold vaG); simp [hb_7, hb_12, hb_16, hb_21, hb_22, hb_23, hb_24, hb_25, hb_26, hb_33, hb_34], b6⟩
  refine fw_cF rfl hb_33 (fw_sq (fw_rg rfl ?_))
  iterate 2 refine fw_pu rfl ?_
  refine fw_dt ?_
  rcases Bool.eq_false_or_eq_true ((m.k == 10)) with hb_40 | hb_40
  · skip
    refine fw_cT rfl hb_40 (fw_sq (fw_rg rfl (fw_pu rfl (fw_ld r4 rfl rfl (fw_ca Tryd.func81 rfl rfl rfl ((isIDG m.id W2)) ?_)))))
    rintro _ _ ⟨rfl, rfl⟩
    refine ⟨(.bool (idG m.id)), rfl, ?_⟩
    refine fw_pu rfl ?_
    rcases Bool.eq_false_or_eq_true ((idG m.id)) with hb_41 | hb_41
    · skip
      refine fw_kn 79 rfl hb_41 (fw_pu rfl (fw_ld r4 rfl rfl (fw_pu rfl (fw_ca Tryd.func82 rfl rfl rfl ((isCountG ((m.fs.length : Nat) : Int) W2)) ?_))))
      rintro _ _ ⟨rfl, rfl⟩
      refine ⟨(.bool (ctG ((m.fs.length : Nat) : Int))), rfl, ?_⟩
      iterate 2 refine fw_pu rfl ?_
      rcases Bool.eq_false_or_eq_true ((ctG ((m.fs.length : Nat) : Int))) with hb_42 | hb_42
      · skip
        refine fw_kn 85 rfl hb_42 (fw_pu rfl (fw_ld r4 rfl rfl (fw_ca Tryd.func85 rfl rfl rfl ((validFiltersG m.fs af _ cf W2 (hL.f.below b6) hF.fs hF.fsf (hT.below b6))) ?_)))
        rintro _ V44 ⟨rfl, hb43⟩
        refine ⟨(.bool (fsG m.fs)), rfl, ?_⟩
        have b45 := b6.trans (hb43.mono b6.size)
        have r46 := r4.below hb43
        iterate 2 refine fw_pu rfl ?_
        refine fw_dt (fw_rt (fw_br (fw_tr ?_)))
        refine ⟨fun a h => ?_⟩
        exact ow_ret1 rfl h.df (h.g 2 rfl) ⟨by (try unfold vaG); simp [hb_7, hb_12, hb_16, hb_21, hb_22, hb_23, hb_24, hb_25, hb_26, hb_33, hb_40, hb_41, hb_42], b45⟩
      refine fw_kn 85 rfl hb_42 ?_
      iterate 5 refine fw_pu rfl ?_
      refine fw_dt (fw_rt (fw_br (fw_tr ?_)))
      refine ⟨fun a h => ?_⟩
      exact ow_ret1 rfl h.df (h.g 2 rfl) ⟨by (try unfold vaG); simp [hb_7, hb_12, hb_16, hb_21, hb_22, hb_23, hb_24, hb_25, hb_26, hb_33, hb_40, hb_41, hb_42], b6⟩
    refine fw_kn 79 rfl hb_41 ?_
    iterate 11 refine fw_pu rfl ?_
    refine fw_dt (fw_rt (fw_br (fw_tr ?_)))
    refine ⟨fun a h => ?_⟩
    exact ow_ret1 rfl h.df (h.g 2 rfl) ⟨by (try unfold vaG); simp [hb_7, hb_12, hb_16, hb_21, hb_22, hb_23, hb_24, hb_25, hb_26, hb_33, hb_40, hb_41], b6⟩
  refine fw_cF rfl hb_40 (fw_sq (fw_sq (fw_rg rfl ?_)))
  iterate 2 refine fw_pu rfl ?_
  refine fw_dt ?_
  rcases Bool.eq_false_or_eq_true ((m.k == 12)) with hb_47 | hb_47
  · skip
    refine fw_cT rfl hb_47 (fw_sk (fw_th (fw_cT rfl hb_47 (fw_sq (fw_rg rfl (fw_pu rfl (fw_dt (fw_rt (fw_br (fw_tr ?_))))))))))
    refine ⟨fun a h => ?_⟩
    exact ow_ret1 rfl h.df (h.g 2 rfl) ⟨by (try unfold vaG); simp [hb_7, hb_12, hb_16, hb_21, hb_22, hb_23, hb_24, hb_25, hb_26, hb_33, hb_40, hb_47], b6⟩
  refine fw_cF rfl hb_47 (fw_sq (fw_rg rfl ?_))
  iterate 2 refine fw_pu rfl ?_
  refine fw_dt ?_
  rcases Bool.eq_false_or_eq_true ((m.k == 13)) with hb_48 | hb_48
  · skip
    refine fw_cT rfl hb_48 (fw_sk (fw_th (fw_cT rfl hb_48 (fw_sq (fw_rg rfl (fw_pu rfl (fw_dt (fw_rt (fw_br (fw_tr ?_))))))))))
    refine ⟨fun a h => ?_⟩
    exact ow_ret1 rfl h.df (h.g 2 rfl) ⟨by (try unfold vaG); simp [hb_7, hb_12, hb_16, hb_21, hb_22, hb_23, hb_24, hb_25, hb_26, hb_33, hb_40, hb_47, hb_48], b6⟩
  refine fw_cF rfl hb_48 (fw_rg rfl ?_)
  iterate 2 refine fw_pu rfl ?_
  refine fw_dt ?_
  rcases Bool.eq_false_or_eq_true ((m.k == 14)) with hb_49 | hb_49
  · skip
    refine fw_cT rfl hb_49 (fw_sq (fw_rg rfl (fw_pu rfl (fw_dt (fw_rt (fw_br (fw_tr ?_)))))))
    refine ⟨fun a h => ?_⟩
    exact ow_ret1 rfl h.df (h.g 2 rfl) ⟨by (try unfold vaG); simp [hb_7, hb_12, hb_16, hb_21, hb_22, hb_23, hb_24, hb_25, hb_26, hb_33, hb_40, hb_47, hb_48, hb_49], b6⟩
  refine fw_cF rfl hb_49 (fw_sk (fw_bn (fw_th (fw_sq (fw_rg rfl (fw_pu rfl (fw_dt (fw_rt ?_))))))))
  refine ⟨fun a h => ?_⟩
  exact ow_ret1 rfl h.df (h.g 2 rfl) ⟨by (try unfold vaG); simp [hb_7, hb_12, hb_16, hb_21, hb_22, hb_23, hb_24, hb_25, hb_26, hb_33, hb_40, hb_47, hb_48, hb_49], b6⟩
set_option maxRecDepth 100000 in
set_option maxHeartbeats 4000000 in
theorem bareG (m : Mq) (ac aw af : Option Addr) (nc nw nf cc cw cf : Nat) (w : World) (hL : m.Lists w (.slice ac nc cc) (.slice aw nw cw) (.slice af nf cf)) :
    Calls Tryd.prog 60 #[.agg (Mq.row m (.slice ac nc cc) (.slice aw nw cw) (.slice af nf cf)).toArray] w fun e w' => e = .returned (.bool (baG m)) ∧ Below w.heap.size w w' := by
  obtain rfl : nc = m.cs.length := by have := slR_len hL.c; simpa using this
  obtain rfl : nw = m.ws.length := by have := slR_len hL.w; simpa using this
  obtain rfl : nf = m.fs.length := by have := slR_len hL.f; simpa using this
  have hb0 := Below.refl w.heap.size w
  refine fw_en 51 [(0, .agg (Mq.row m (.slice ac m.cs.length cc) (.slice aw m.ws.length cw) (.slice af m.fs.length cf)).toArray)] Tryd.func60 rfl Tryd.ntmps60 rfl ⟨rfl, trivial⟩ ?_
  refine fw_sq (fw_rg rfl (fw_bx rfl (cs := [.int .i64 m.k, .string m.cl, .bool m.clean, .int .i64 m.keep, .bool m.wI, .string m.wT, .string m.wP, .int .i64 m.wQ, .bool m.wR, .string m.us, .bool m.hu, .string m.pa, .bool m.hp, .bool m.pres, .int .i64 m.code, .slice ac m.cs.length cc, .bool m.dup, .int .i64 m.q, .bool m.re, .string m.top, .int .i64 m.id, .string m.pay, .slice aw m.ws.length cw, .slice af m.fs.length cf]) rfl ?_))
  intro q1 W2 g5 s3 r4
  have := Nat.le_trans hb0.size g5
  have b6 := hb0.trans (s3.mono hb0.size)
  refine fw_pu rfl (fw_dt (fw_sq (fw_rg rfl (fw_ld r4 rfl rfl ?_))))
  refine fw_al (t := 30) (u := fun q => .pointer (some ⟨q, 0, none⟩)) 3 [.int .i64 0, .string { data := #[] }, .bool false, .int .i64 0, .bool false, .string { data := #[] }, .string { data := #[] }, .int .i64 0, .bool false, .string { data := #[] }, .bool false, .string { data := #[] }, .bool false, .bool false, .int .i64 0, .slice none 0 0, .bool false, .int .i64 0, .bool false, .string { data := #[] }, .int .i64 0, .string { data := #[] }, .slice none 0 0, .slice none 0 0] rfl rfl rfl (fun a h => (run_allocOp (by simp [go_sem, Instr.alloc]))) ?_
  intro q7 W8 g11 s9 r10
  have := Nat.le_trans b6.size g11
  have := r4.lt g11
  have b12 := b6.trans (s9.mono b6.size)
  have r13 := r4.below s9
  refine fw_st r10 rfl rfl ?_
  intro W14 s15 r16
  have b17 := below_chg b12 s15 (by omega) b12.size
  have r18 := r13.chg s15 (by omega)
  replace r16 : RowAt W14 q7 (Mq.row m (.slice ac m.cs.length cc) (.slice aw m.ws.length cw) (.slice af m.fs.length cf)) := r16
  refine fw_dt (fw_sq (fw_sq (fw_rg rfl (fw_pu rfl (fw_ld r18 rfl rfl (fw_dt (fw_bk (fw_sq (fw_rg rfl ?_)))))))))
  iterate 2 refine fw_pu rfl ?_
  refine fw_dt ?_
  rcases Bool.eq_false_or_eq_true ((m.k == 1)) with hb_19 | hb_19
  · skip
    refine fw_cT rfl hb_19 (fw_sq (fw_rg rfl ?_))
    refine fw_ex 9 (.agg #[.bool false, .string { data := #[] }, .string { data := #[] }, .int .i64 0, .bool false]) rfl rfl rfl (fun a h => (run_buildOp (vs := #[]) (by simp) (by kernel_rfl))) ?_
    refine fw_pu rfl (fw_st r16 rfl rfl ?_)
    intro W20 s21 r22
    have b23 := below_chg b17 s21 (by omega) b17.size
    have r24 := r18.chg s21 (by omega)
    replace r22 : RowAt W20 q7 (Mq.row ({ m with cl := { data := #[] } } : Mq) (.slice ac m.cs.length cc) (.slice aw m.ws.length cw) (.slice af m.fs.length cf)) := r22
    refine fw_pu rfl (fw_st r22 rfl rfl ?_)
    intro W25 s26 r27
    have b28 := below_chg b23 s26 (by omega) b23.size
    have r29 := r24.chg s26 (by omega)
    replace r27 : RowAt W25 q7 (Mq.row ({ m with cl := { data := #[] }, clean := false } : Mq) (.slice ac m.cs.length cc) (.slice aw m.ws.length cw) (.slice af m.fs.length cf)) := r27
    refine fw_pu rfl (fw_st r27 rfl rfl ?_)
    intro W30 s31 r32
    have b33 := below_chg b28 s31 (by omega) b28.size
    have r34 := r29.chg s31 (by omega)
    replace r32 : RowAt W30 q7 (Mq.row ({ m with cl := { data := #[] }, clean := false, keep := 0 } : Mq) (.slice ac m.cs.length cc) (.slice aw m.ws.length cw) (.slice af m.fs.length cf)) := r32
    refine fw_pu rfl (fw_st r32 rfl rfl ?_)
    intro W35 s36 r37
    have b38 := below_chg b33 s36 (by omega) b33.size
    have r39 := r34.chg s36 (by omega)
    replace r37 : RowAt W35 q7 (Mq.row ({ m with cl := { data := #[] }, clean := false, keep := 0, wI := false, wT := { data := #[] }, wP := { data := #[] }, wQ := 0, wR := false } : Mq) (.slice ac m.cs.length cc) (.slice aw m.ws.length cw) (.slice af m.fs.length cf)) := r37
    refine fw_dt (fw_rg rfl (fw_pu rfl (fw_st r37 rfl rfl ?_)))
    intro W40 s41 r42
    have b43 := below_chg b38 s41 (by omega) b38.size
    have r44 := r39.chg s41 (by omega)
    replace r42 : RowAt W40 q7 (Mq.row ({ m with cl := { data := #[] }, clean := false, keep := 0, wI := false, wT := { data := #[] }, wP := { data := #[] }, wQ := 0, wR := false, us := { data := #[] } } : Mq) (.slice ac m.cs.length cc) (.slice aw m.ws.length cw) (.slice af m.fs.length cf)) := r42
    refine fw_pu rfl (fw_st r42 rfl rfl ?_)
    intro W45 s46 r47
    have b48 := below_chg b43 s46 (by omega) b43.size
    have r49 := r44.chg s46 (by omega)
    replace r47 : RowAt W45 q7 [.int .i64 m.k, .string { data := #[] }, .bool false, .int .i64 0, .bool false, .string { data := #[] }, .string { data := #[] }, .int .i64 0, .bool false, .string { data := #[] }, .bool false, .string m.pa, .bool m.hp, .bool m.pres, .int .i64 m.code, .slice ac m.cs.length cc, .bool m.dup, .int .i64 m.q, .bool m.re, .string m.top, .int .i64 m.id, .string m.pay, .slice aw m.ws.length cw, .slice af m.fs.length cf] := r47
    refine fw_pu rfl (fw_st r47 rfl rfl ?_)
    intro W50 s51 r52
    have b53 := below_chg b48 s51 (by omega) b48.size
    have r54 := r49.chg s51 (by omega)
    replace r52 : RowAt W50 q7 [.int .i64 m.k, .string { data := #[] }, .bool false, .int .i64 0, .bool false, .string { data := #[] }, .string { data := #[] }, .int .i64 0, .bool false, .string { data := #[] }, .bool false, .string { data := #[] }, .bool m.hp, .bool m.pres, .int .i64 m.code, .slice ac m.cs.length cc, .bool m.dup, .int .i64 m.q, .bool m.re, .string m.top, .int .i64 m.id, .string m.pay, .slice aw m.ws.length cw, .slice af m.fs.length cf] := r52
    refine fw_pu rfl (fw_st r52 rfl rfl ?_)
    intro W55 s56 r57
    have b58 := below_chg b53 s56 (by omega) b53.size
    have r59 := r54.chg s56 (by omega)
    replace r57 : RowAt W55 q7 [.int .i64 m.k, .string { data := #[] }, .bool false, .int .i64 0, .bool false, .string { data := #[] }, .string { data := #[] }, .int .i64 0, .bool false, .string { data := #[] }, .bool false, .string { data := #[] }, .bool false, .bool m.pres, .int .i64 m.code, .slice ac m.cs.length cc, .bool m.dup, .int .i64 m.q, .bool m.re, .string m.top, .int .i64 m.id, .string m.pay, .slice aw m.ws.length cw, .slice af m.fs.length cf] := r57
    refine fw_dn (fw_bn (fw_th (fw_sq (fw_rg rfl (fw_ld r57 rfl rfl ?_)))))
    refine fw_ca Tryd.func86 rfl rfl rfl ((nothing_any ({ m with cl := E0, clean := false, keep := 0, wI := false, wT := E0, wP := E0, wQ := 0, wR := false, us := E0, hu := false, pa := E0, hp := false } : Mq) _ _ _ W55 ⟨(hL.c.below b58), (hL.w.below b58), (hL.f.below b58)⟩)) ?_
    rintro _ V61 ⟨rfl, hb60⟩
    refine ⟨(.bool (({ m with cl := E0, clean := false, keep := 0, wI := false, wT := E0, wP := E0, wQ := 0, wR := false, us := E0, hu := false, pa := E0, hp := false } : Mq)).noB), rfl, ?_⟩
    have b62 := b58.trans (hb60.mono b58.size)
    have r63 := r59.below hb60
    have r64 := r57.below hb60
    refine fw_pu rfl (fw_dt (fw_rt ?_))
    refine ⟨fun a h => ?_⟩
    exact ow_ret1 rfl h.df (h.g 2 rfl) ⟨by unfold baG stG; first | (simp [hb_19]; done) | simp [E0, hb_19], b62⟩
  refine fw_cF rfl hb_19 (fw_sq (fw_rg rfl ?_))
  iterate 2 refine fw_pu rfl ?_
  refine fw_dt ?_
  rcases Bool.eq_false_or_eq_true ((m.k == 2)) with hb_65 | hb_65
  · skip
    refine fw_cT rfl hb_65 (fw_rg rfl (fw_pu rfl (fw_st r16 rfl rfl ?_)))
    intro W66 s67 r68
    have b69 := below_chg b17 s67 (by omega) b17.size
    have r70 := r18.chg s67 (by omega)
    replace r68 : RowAt W66 q7 (Mq.row ({ m with pres := false } : Mq) (.slice ac m.cs.length cc) (.slice aw m.ws.length cw) (.slice af m.fs.length cf)) := r68
    refine fw_pu rfl (fw_st r68 rfl rfl ?_)
    intro W71 s72 r73
    have b74 := below_chg b69 s72 (by omega) b69.size
    have r75 := r70.chg s72 (by omega)
    replace r73 : RowAt W71 q7 (Mq.row ({ m with pres := false, code := 0 } : Mq) (.slice ac m.cs.length cc) (.slice aw m.ws.length cw) (.slice af m.fs.length cf)) := r73
    refine fw_dn (fw_bn (fw_th (fw_sq (fw_rg rfl (fw_ld r73 rfl rfl ?_)))))
    refine fw_ca Tryd.func86 rfl rfl rfl ((nothing_any ({ m with pres := false, code := 0 } : Mq) _ _ _ W71 ⟨(hL.c.below b74), (hL.w.below b74), (hL.f.below b74)⟩)) ?_
    rintro _ V77 ⟨rfl, hb76⟩
    refine ⟨(.bool (({ m with pres := false, code := 0 } : Mq)).noB), rfl, ?_⟩
    have b78 := b74.trans (hb76.mono b74.size)
    have r79 := r75.below hb76
    have r80 := r73.below hb76
    refine fw_pu rfl (fw_dt (fw_rt ?_))
    refine ⟨fun a h => ?_⟩
    exact ow_ret1 rfl h.df (h.g 2 rfl) ⟨by unfold baG stG; first | (simp [hb_19, hb_65]; done) | simp [E0, hb_19, hb_65], b78⟩
  refine fw_cF rfl hb_65 (fw_sq (fw_rg rfl ?_))
  iterate 2 refine fw_pu rfl ?_
  refine fw_dt ?_
  rcases Bool.eq_false_or_eq_true ((m.k == 3)) with hb_81 | hb_81
  · skip
    refine fw_cT rfl hb_81 (fw_rg rfl (fw_pu rfl (fw_st r16 rfl rfl ?_)))
    intro W82 s83 r84
    have b85 := below_chg b17 s83 (by omega) b17.size
    have r86 := r18.chg s83 (by omega)
    replace r84 : RowAt W82 q7 (Mq.row ({ m with top := { data := #[] } } : Mq) (.slice ac m.cs.length cc) (.slice aw m.ws.length cw) (.slice af m.fs.length cf)) := r84
    refine fw_pu rfl (fw_st r84 rfl rfl ?_)
    intro W87 s88 r89
    have b90 := below_chg b85 s88 (by omega) b85.size
    have r91 := r86.chg s88 (by omega)
    replace r89 : RowAt W87 q7 (Mq.row ({ m with q := 0, top := { data := #[] } } : Mq) (.slice ac m.cs.length cc) (.slice aw m.ws.length cw) (.slice af m.fs.length cf)) := r89
    refine fw_pu rfl (fw_st r89 rfl rfl ?_)
    intro W92 s93 r94
    have b95 := below_chg b90 s93 (by omega) b90.size
    have r96 := r91.chg s93 (by omega)
    replace r94 : RowAt W92 q7 (Mq.row ({ m with q := 0, re := false, top := { data := #[] } } : Mq) (.slice ac m.cs.length cc) (.slice aw m.ws.length cw) (.slice af m.fs.length cf)) := r94
    refine fw_pu rfl (fw_st r94 rfl rfl ?_)
    intro W97 s98 r99
    have b100 := below_chg b95 s98 (by omega) b95.size
    have r101 := r96.chg s98 (by omega)
    replace r99 : RowAt W97 q7 (Mq.row ({ m with q := 0, re := false, top := { data := #[] }, pay := { data := #[] } } : Mq) (.slice ac m.cs.length cc) (.slice aw m.ws.length cw) (.slice af m.fs.length cf)) := r99
    refine fw_pu rfl (fw_st r99 rfl rfl ?_)
    intro W102 s103 r104
    have b105 := below_chg b100 s103 (by omega) b100.size
    have r106 := r101.chg s103 (by omega)
    replace r104 : RowAt W102 q7 (Mq.row ({ m with dup := false, q := 0, re := false, top := { data := #[] }, pay := { data := #[] } } : Mq) (.slice ac m.cs.length cc) (.slice aw m.ws.length cw) (.slice af m.fs.length cf)) := r104
    refine fw_pu rfl (fw_st r104 rfl rfl ?_)
    intro W107 s108 r109
    have b110 := below_chg b105 s108 (by omega) b105.size
    have r111 := r106.chg s108 (by omega)
    replace r109 : RowAt W107 q7 (Mq.row ({ m with dup := false, q := 0, re := false, top := { data := #[] }, id := 0, pay := { data := #[] } } : Mq) (.slice ac m.cs.length cc) (.slice aw m.ws.length cw) (.slice af m.fs.length cf)) := r109
    refine fw_dn (fw_bn (fw_th (fw_sq (fw_rg rfl (fw_ld r109 rfl rfl ?_)))))
    refine fw_ca Tryd.func86 rfl rfl rfl ((nothing_any ({ m with dup := false, q := 0, re := false, top := E0, id := 0, pay := E0 } : Mq) _ _ _ W107 ⟨(hL.c.below b110), (hL.w.below b110), (hL.f.below b110)⟩)) ?_
    rintro _ V113 ⟨rfl, hb112⟩
    refine ⟨(.bool (({ m with dup := false, q := 0, re := false, top := E0, id := 0, pay := E0 } : Mq)).noB), rfl, ?_⟩
    have b114 := b110.trans (hb112.mono b110.size)
    have r115 := r111.below hb112
    have r116 := r109.below hb112
    refine fw_pu rfl (fw_dt (fw_rt ?_))
    refine ⟨fun a h => ?_⟩
    exact ow_ret1 rfl h.df (h.g 2 rfl) ⟨by unfold baG stG; first | (simp [hb_19, hb_65, hb_81]; done) | simp [E0, hb_19, hb_65, hb_81], b114⟩
  refine fw_cF rfl hb_81 (fw_sq (fw_sq (fw_rg rfl ?_)))
  iterate 2 refine fw_pu rfl ?_
  refine fw_dt ?_
  rcases Bool.eq_false_or_eq_true ((m.k == 4)) with hb_117 | hb_117
  · skip
    refine fw_cT rfl hb_117 (fw_sk (fw_th (fw_cT rfl hb_117 (fw_rg rfl (fw_pu rfl (fw_st r16 rfl rfl ?_))))))
    intro W118 s119 r120
    have b121 := below_chg b17 s119 (by omega) b17.size
    have r122 := r18.chg s119 (by omega)
    replace r120 : RowAt W118 q7 (Mq.row ({ m with id := 0 } : Mq) (.slice ac m.cs.length cc) (.slice aw m.ws.length cw) (.slice af m.fs.length cf)) := r120
    refine fw_dn (fw_bn (fw_th (fw_sq (fw_rg rfl (fw_ld r120 rfl rfl ?_)))))
    refine fw_ca Tryd.func86 rfl rfl rfl ((nothing_any ({ m with id := 0 } : Mq) _ _ _ W118 ⟨(hL.c.below b121), (hL.w.below b121), (hL.f.below b121)⟩)) ?_
    rintro _ V124 ⟨rfl, hb123⟩
    refine ⟨(.bool (({ m with id := 0 } : Mq)).noB), rfl, ?_⟩
    have b125 := b121.trans (hb123.mono b121.size)
    have r126 := r122.below hb123
    have r127 := r120.below hb123
    refine fw_pu rfl (fw_dt (fw_rt ?_))
    refine ⟨fun a h => ?_⟩
    exact ow_ret1 rfl h.df (h.g 2 rfl) ⟨by unfold baG stG; first | (simp [hb_19, hb_65, hb_81, hb_117]; done) | simp [E0, hb_19, hb_65, hb_81, hb_117], b125⟩
  refine fw_cF rfl hb_117 (fw_sq (fw_rg rfl ?_))
  iterate 2 refine fw_pu rfl ?_
  refine fw_dt ?_
  rcases Bool.eq_false_or_eq_true ((m.k == 5)) with hb_128 | hb_128
  · skip
    refine fw_cT rfl hb_128 (fw_sk (fw_th (fw_cT rfl hb_128 (fw_rg rfl (fw_pu rfl (fw_st r16 rfl rfl ?_))))))
    intro W129 s130 r131
    have b132 := below_chg b17 s130 (by omega) b17.size
    have r133 := r18.chg s130 (by omega)
    replace r131 : RowAt W129 q7 (Mq.row ({ m with id := 0 } : Mq) (.slice ac m.cs.length cc) (.slice aw m.ws.length cw) (.slice af m.fs.length cf)) := r131
    refine fw_dn (fw_bn (fw_th (fw_sq (fw_rg rfl (fw_ld r131 rfl rfl ?_)))))
    refine fw_ca Tryd.func86 rfl rfl rfl ((nothing_any ({ m with id := 0 } : Mq) _ _ _ W129 ⟨(hL.c.below b132), (hL.w.below b132), (hL.f.below b132)⟩)) ?_
    rintro _ V135 ⟨rfl, hb134⟩
    refine ⟨(.bool (({ m with id := 0 } : Mq)).noB), rfl, ?_⟩
    have b136 := b132.trans (hb134.mono b132.size)
    have r137 := r133.below hb134
    have r138 := r131.below hb134
    refine fw_pu rfl (fw_dt (fw_rt ?_))
    refine ⟨fun a h => ?_⟩
    exact ow_ret1 rfl h.df (h.g 2 rfl) ⟨by unfold baG stG; first | (simp [hb_19, hb_65, hb_81, hb_117, hb_128]; done) | simp [E0, hb_19, hb_65, hb_81, hb_117, hb_128], b136⟩
  refine fw_cF rfl hb_128 (fw_sq (fw_rg rfl ?_))
  iterate 2 refine fw_pu rfl ?_
  refine fw_dt ?_
  rcases Bool.eq_false_or_eq_true ((m.k == 6)) with hb_139 | hb_139
  · skip
    refine fw_cT rfl hb_139 (fw_sk (fw_th (fw_cT rfl hb_139 (fw_rg rfl (fw_pu rfl (fw_st r16 rfl rfl ?_))))))
    intro W140 s141 r142
    have b143 := below_chg b17 s141 (by omega) b17.size
    have r144 := r18.chg s141 (by omega)
    replace r142 : RowAt W140 q7 (Mq.row ({ m with id := 0 } : Mq) (.slice ac m.cs.length cc) (.slice aw m.ws.length cw) (.slice af m.fs.length cf)) := r142
    refine fw_dn (fw_bn (fw_th (fw_sq (fw_rg rfl (fw_ld r142 rfl rfl ?_)))))
    refine fw_ca Tryd.func86 rfl rfl rfl ((nothing_any ({ m with id := 0 } : Mq) _ _ _ W140 ⟨(hL.c.below b143), (hL.w.below b143), (hL.f.below b143)⟩)) ?_
    rintro _ V146 ⟨rfl, hb145⟩
    refine ⟨(.bool (({ m with id := 0 } : Mq)).noB), rfl, ?_⟩
    have b147 := b143.trans (hb145.mono b143.size)
    have r148 := r144.below hb145
    have r149 := r142.below hb145
    refine fw_pu rfl (fw_dt (fw_rt ?_))
    refine ⟨fun a h => ?_⟩
    exact ow_ret1 rfl h.df (h.g 2 rfl) ⟨by unfold baG stG; first | (simp [hb_19, hb_65, hb_81, hb_117, hb_128, hb_139]; done) | simp [E0, hb_19, hb_65, hb_81, hb_117, hb_128, hb_139], b147⟩
  refine fw_cF rfl hb_139 (fw_sq (fw_rg rfl ?_))
  iterate 2 refine fw_pu rfl ?_
  refine fw_dt ?_
  rcases Bool.eq_false_or_eq_true ((m.k == 7)) with hb_150 | hb_150
  · skip
    refine fw_cT rfl hb_150 (fw_sk (fw_th (fw_cT rfl hb_150 (fw_rg rfl (fw_pu rfl (fw_st r16 rfl rfl ?_))))))
    intro W151 s152 r153
    have b154 := below_chg b17 s152 (by omega) b17.size
    have r155 := r18.chg s152 (by omega)
    replace r153 : RowAt W151 q7 (Mq.row ({ m with id := 0 } : Mq) (.slice ac m.cs.length cc) (.slice aw m.ws.length cw) (.slice af m.fs.length cf)) := r153
    refine fw_dn (fw_bn (fw_th (fw_sq (fw_rg rfl (fw_ld r153 rfl rfl ?_)))))
    refine fw_ca Tryd.func86 rfl rfl rfl ((nothing_any ({ m with id := 0 } : Mq) _ _ _ W151 ⟨(hL.c.below b154), (hL.w.below b154), (hL.f.below b154)⟩)) ?_
    rintro _ V157 ⟨rfl, hb156⟩
    refine ⟨(.bool (({ m with id := 0 } : Mq)).noB), rfl, ?_⟩
    have b158 := b154.trans (hb156.mono b154.size)
    have r159 := r155.below hb156
    have r160 := r153.below hb156
    refine fw_pu rfl (fw_dt (fw_rt ?_))
    refine ⟨fun a h => ?_⟩
    exact ow_ret1 rfl h.df (h.g 2 rfl) ⟨by unfold baG stG; first | (simp [hb_19, hb_65, hb_81, hb_117, hb_128, hb_139, hb_150]; done) | simp [E0, hb_19, hb_65, hb_81, hb_117, hb_128, hb_139, hb_150], b158⟩
  refine fw_cF rfl hb_150 (fw_rg rfl ?_)
  iterate 2 refine fw_pu rfl ?_
  refine fw_dt ?_
  rcases Bool.eq_false_or_eq_true ((m.k == 11)) with hb_161 | hb_161
  · skip
    refine fw_cT rfl hb_161 (fw_rg rfl (fw_pu rfl (fw_st r16 rfl rfl ?_)))
    intro W162 s163 r164
    have b165 := below_chg b17 s163 (by omega) b17.size
    have r166 := r18.chg s163 (by omega)
    replace r164 : RowAt W162 q7 (Mq.row ({ m with id := 0 } : Mq) (.slice ac m.cs.length cc) (.slice aw m.ws.length cw) (.slice af m.fs.length cf)) := r164
    refine fw_dn (fw_bn (fw_th (fw_sq (fw_rg rfl (fw_ld r164 rfl rfl ?_)))))
    refine fw_ca Tryd.func86 rfl rfl rfl ((nothing_any ({ m with id := 0 } : Mq) _ _ _ W162 ⟨(hL.c.below b165), (hL.w.below b165), (hL.f.below b165)⟩)) ?_
    rintro _ V168 ⟨rfl, hb167⟩
    refine ⟨(.bool (({ m with id := 0 } : Mq)).noB), rfl, ?_⟩
    have b169 := b165.trans (hb167.mono b165.size)
    have r170 := r166.below hb167
    have r171 := r164.below hb167
    refine fw_pu rfl (fw_dt (fw_rt ?_))
    refine ⟨fun a h => ?_⟩
    exact ow_ret1 rfl h.df (h.g 2 rfl) ⟨by unfold baG stG; first | (simp [hb_19, hb_65, hb_81, hb_117, hb_128, hb_139, hb_150, hb_161]; done) | simp [E0, hb_19, hb_65, hb_81, hb_117, hb_128, hb_139, hb_150, hb_161], b169⟩
  refine fw_cF rfl hb_161 (fw_sq (fw_rg rfl ?_))
  iterate 2 refine fw_pu rfl ?_
  refine fw_dt ?_
  rcases Bool.eq_false_or_eq_true ((m.k == 8)) with hb_172 | hb_172
  · skip
    refine fw_cT rfl hb_172 (fw_rg rfl (fw_pu rfl (fw_st r16 rfl rfl ?_)))
    intro W173 s174 r175
    have b176 := below_chg b17 s174 (by omega) b17.size
    have r177 := r18.chg s174 (by omega)
    replace r175 : RowAt W173 q7 (Mq.row ({ m with id := 0 } : Mq) (.slice ac m.cs.length cc) (.slice aw m.ws.length cw) (.slice af m.fs.length cf)) := r175
    refine fw_pu rfl (fw_st r175 rfl rfl ?_)
    intro W178 s179 r180
    have b181 := below_chg b176 s179 (by omega) b176.size
    have r182 := r177.chg s179 (by omega)
    replace r180 : RowAt W178 q7 (Mq.row ({ m with id := 0 } : Mq) (.slice ac m.cs.length cc) (.slice none 0 0) (.slice af m.fs.length cf)) := r180
    refine fw_dn (fw_bn (fw_th (fw_sq (fw_rg rfl (fw_ld r180 rfl rfl ?_)))))
    refine fw_ca Tryd.func86 rfl rfl rfl ((nothing_any ({ m with id := 0, ws := [] } : Mq) _ _ _ W178 ⟨(hL.c.below b181), nilL _ _, (hL.f.below b181)⟩)) ?_
    rintro _ V184 ⟨rfl, hb183⟩
    refine ⟨(.bool (({ m with id := 0, ws := [] } : Mq)).noB), rfl, ?_⟩
    have b185 := b181.trans (hb183.mono b181.size)
    have r186 := r182.below hb183
    have r187 := r180.below hb183
    refine fw_pu rfl (fw_dt (fw_rt ?_))
    refine ⟨fun a h => ?_⟩
    exact ow_ret1 rfl h.df (h.g 2 rfl) ⟨by unfold baG stG; first | (simp [hb_19, hb_65, hb_81, hb_117, hb_128, hb_139, hb_150, hb_161, hb_172]; done) | simp [E0, hb_19, hb_65, hb_81, hb_117, hb_128, hb_139, hb_150, hb_161, hb_172], b185⟩
  refine fw_cF rfl hb_172 (fw_sq (fw_rg rfl ?_))
  iterate 2 refine fw_pu rfl ?_
  refine fw_dt ?_
  rcases Bool.eq_false_or_eq_true ((m.k == 9)) with hb_188 | hb_188
  · skip
    refine fw_cT rfl hb_188 (fw_rg rfl (fw_pu rfl (fw_st r16 rfl rfl ?_)))
    intro W189 s190 r191
    have b192 := below_chg b17 s190 (by omega) b17.size
    have r193 := r18.chg s190 (by omega)
    replace r191 : RowAt W189 q7 (Mq.row ({ m with id := 0 } : Mq) (.slice ac m.cs.length cc) (.slice aw m.ws.length cw) (.slice af m.fs.length cf)) := r191
    refine fw_pu rfl (fw_st r191 rfl rfl ?_)
    intro W194 s195 r196
    have b197 := below_chg b192 s195 (by omega) b192.size
    have r198 := r193.chg s195 (by omega)
    replace r196 : RowAt W194 q7 (Mq.row ({ m with id := 0 } : Mq) (.slice none 0 0) (.slice aw m.ws.length cw) (.slice af m.fs.length cf)) := r196
    refine fw_dn (fw_bn (fw_th (fw_sq (fw_rg rfl (fw_ld r196 rfl rfl ?_)))))
    refine fw_ca Tryd.func86 rfl rfl rfl ((nothing_any ({ m with id := 0, cs := [] } : Mq) _ _ _ W194 ⟨nilL _ _, (hL.w.below b197), (hL.f.below b197)⟩)) ?_
    rintro _ V200 ⟨rfl, hb199⟩
    refine ⟨(.bool (({ m with id := 0, cs := [] } : Mq)).noB), rfl, ?_⟩
    have b201 := b197.trans (hb199.mono b197.size)
    have r202 := r198.below hb199
    have r203 := r196.below hb199
    refine fw_pu rfl (fw_dt (fw_rt ?_))
    refine ⟨fun a h => ?_⟩
    exact ow_ret1 rfl h.df (h.g 2 rfl) ⟨by unfold baG stG; first | (simp [hb_19, hb_65, hb_81, hb_117, hb_128, hb_139, hb_150, hb_161, hb_172, hb_188]; done) | simp [E0, hb_19, hb_65, hb_81, hb_117, hb_128, hb_139, hb_150, hb_161, hb_172, hb_188], b201⟩
  refine fw_cF rfl hb_188 (fw_sq (fw_rg rfl ?_))
  iterate 2 refine fw_pu rfl ?_
  refine fw_dt ?_
  rcases Bool.eq_false_or_eq_true ((m.k == 10)) with hb_204 | hb_204
  · skip
    refine fw_cT rfl hb_204 (fw_rg rfl (fw_pu rfl (fw_st r16 rfl rfl ?_)))
    intro W205 s206 r207
    have b208 := below_chg b17 s206 (by omega) b17.size
    have r209 := r18.chg s206 (by omega)
    replace r207 : RowAt W205 q7 (Mq.row ({ m with id := 0 } : Mq) (.slice ac m.cs.length cc) (.slice aw m.ws.length cw) (.slice af m.fs.length cf)) := r207
    refine fw_pu rfl (fw_st r207 rfl rfl ?_)
    intro W210 s211 r212
    have b213 := below_chg b208 s211 (by omega) b208.size
    have r214 := r209.chg s211 (by omega)
    replace r212 : RowAt W210 q7 (Mq.row ({ m with id := 0 } : Mq) (.slice ac m.cs.length cc) (.slice aw m.ws.length cw) (.slice none 0 0)) := r212
    refine fw_dn (fw_bn (fw_th (fw_sq (fw_rg rfl (fw_ld r212 rfl rfl ?_)))))
    refine fw_ca Tryd.func86 rfl rfl rfl ((nothing_any ({ m with id := 0, fs := [] } : Mq) _ _ _ W210 ⟨(hL.c.below b213), (hL.w.below b213), nilL _ _⟩)) ?_
    rintro _ V216 ⟨rfl, hb215⟩
    refine ⟨(.bool (({ m with id := 0, fs := [] } : Mq)).noB), rfl, ?_⟩
    have b217 := b213.trans (hb215.mono b213.size)
    have r218 := r214.below hb215
    have r219 := r212.below hb215
    refine fw_pu rfl (fw_dt (fw_rt ?_))
    refine ⟨fun a h => ?_⟩
    exact ow_ret1 rfl h.df (h.g 2 rfl) ⟨by unfold baG stG; first | (simp [hb_19, hb_65, hb_81, hb_117, hb_128, hb_139, hb_150, hb_161, hb_172, hb_188, hb_204]; done) | simp [E0, hb_19, hb_65, hb_81, hb_117, hb_128, hb_139, hb_150, hb_161, hb_172, hb_188, hb_204], b217⟩
  refine fw_cF rfl hb_204 (fw_sk (fw_bn (fw_th (fw_sq (fw_rg rfl (fw_ld r16 rfl rfl ?_))))))
  refine fw_ca Tryd.func86 rfl rfl rfl ((nothing_any m _ _ _ W14 ⟨(hL.c.below b17), (hL.w.below b17), (hL.f.below b17)⟩)) ?_
  rintro _ V221 ⟨rfl, hb220⟩
  refine ⟨(.bool (m).noB), rfl, ?_⟩
  have b222 := b17.trans (hb220.mono b17.size)
  have r223 := r18.below hb220
  have r224 := r16.below hb220
  refine fw_pu rfl (fw_dt (fw_rt ?_))
  refine ⟨fun a h => ?_⟩
  exact ow_ret1 rfl h.df (h.g 2 rfl) ⟨by unfold baG stG; first | (simp [hb_19, hb_65, hb_81, hb_117, hb_128, hb_139, hb_150, hb_161, hb_172, hb_188, hb_204]; done) | simp [E0, hb_19, hb_65, hb_81, hb_117, hb_128, hb_139, hb_150, hb_161, hb_172, hb_188, hb_204], b222⟩
set_option maxRecDepth 100000 in
set_option maxHeartbeats 4000000 in
theorem checkG (m : Mq) (ac aw af : Option Addr) (nc nw nf cc cw cf : Nat) (w : World) (hL : m.Lists w (.slice ac nc cc) (.slice aw nw cw) (.slice af nf cf)) (hF : m.Far) (hT : Tabs w) :
    Calls Tryd.prog 26 #[.agg (Mq.row m (.slice ac nc cc) (.slice aw nw cw) (.slice af nf cf)).toArray] w fun e w' => e = .returned (.int .i64 (if mayG m then 0 else 1)) ∧ Below w.heap.size w w' := by
  obtain rfl : nc = m.cs.length := by have := slR_len hL.c; simpa using this
  obtain rfl : nw = m.ws.length := by have := slR_len hL.w; simpa using this
  obtain rfl : nf = m.fs.length := by have := slR_len hL.f; simpa using this
  have hb0 := Below.refl w.heap.size w
  have hF0 : m.cl.size ≤ 140737488351232 := hF.cl
  have hF1 : m.wT.size ≤ 140737488351232 := hF.wT
  have hF2 : m.wP.size ≤ 140737488351232 := hF.wP
  have hF3 : m.us.size ≤ 140737488351232 := hF.us
  have hF4 : m.pa.size ≤ 140737488351232 := hF.pa
  have hF5 : m.top.size ≤ 140737488351232 := hF.top
  have hF6 : m.pay.size ≤ 140737488351232 := hF.pay
  refine fw_en 11 [(0, .agg (Mq.row m (.slice ac m.cs.length cc) (.slice aw m.ws.length cw) (.slice af m.fs.length cf)).toArray)] Tryd.func26 rfl Tryd.ntmps26 rfl ⟨rfl, trivial⟩ ?_
  refine fw_sq (fw_rg rfl (fw_bx rfl (cs := [.int .i64 m.k, .string m.cl, .bool m.clean, .int .i64 m.keep, .bool m.wI, .string m.wT, .string m.wP, .int .i64 m.wQ, .bool m.wR, .string m.us, .bool m.hu, .string m.pa, .bool m.hp, .bool m.pres, .int .i64 m.code, .slice ac m.cs.length cc, .bool m.dup, .int .i64 m.q, .bool m.re, .string m.top, .int .i64 m.id, .string m.pay, .slice aw m.ws.length cw, .slice af m.fs.length cf]) rfl ?_))
  intro q1 W2 g5 s3 r4
  have := Nat.le_trans hb0.size g5
  have b6 := hb0.trans (s3.mono hb0.size)
  refine fw_pu rfl (fw_dt (fw_sq (fw_sq (fw_rg rfl (fw_ld r4 rfl rfl (fw_ca Tryd.func59 rfl rfl rfl ((validG m ac aw af _ _ _ cc cw cf W2 (hL.below b6) hF (hT.below b6))) ?_))))))
  rintro _ V8 ⟨rfl, hb7⟩
  refine ⟨(.bool (vaG m)), rfl, ?_⟩
  have b9 := b6.trans (hb7.mono b6.size)
  have r10 := r4.below hb7
  iterate 2 refine fw_pu rfl ?_
  rcases Bool.eq_false_or_eq_true ((vaG m)) with hb_11 | hb_11
  · skip
    refine fw_kn 6 rfl (not_of hb_11) (fw_ld r10 rfl rfl (fw_ca Tryd.func60 rfl rfl rfl ((bareG m ac aw af _ _ _ cc cw cf V8 (hL.below b9))) ?_))
    rintro _ V13 ⟨rfl, hb12⟩
    refine ⟨(.bool (baG m)), rfl, ?_⟩
    have b14 := b9.trans (hb12.mono b9.size)
    have r15 := r10.below hb12
    iterate 2 refine fw_pu rfl ?_
    refine fw_dt ?_
    rcases Bool.eq_false_or_eq_true ((baG m)) with hb_16 | hb_16
    · skip
      refine fw_cF rfl (not_of hb_16) (fw_sk (fw_th (fw_sq (fw_rg rfl (fw_pu rfl (fw_dt (fw_rt ?_)))))))
      refine ⟨fun a h => ?_⟩
      exact ow_ret1 rfl h.df (h.g 2 rfl) ⟨by (try unfold mayG); simp [hb_11, hb_16], b14⟩
    refine fw_cT rfl (not_of hb_16) (fw_sq (fw_rg rfl (fw_pu rfl (fw_dt (fw_rt (fw_tr ?_))))))
    refine ⟨fun a h => ?_⟩
    exact ow_ret1 rfl h.df (h.g 2 rfl) ⟨by (try unfold mayG); simp [hb_11, hb_16], b14⟩
  refine fw_kn 6 rfl (not_of hb_11) ?_
  iterate 4 refine fw_pu rfl ?_
  refine fw_dt (fw_cT rfl rfl (fw_sq (fw_rg rfl (fw_pu rfl (fw_dt (fw_rt (fw_tr ?_)))))))
  refine ⟨fun a h => ?_⟩
  exact ow_ret1 rfl h.df (h.g 2 rfl) ⟨by (try unfold mayG); simp [hb_11], b9⟩
end
end Go.Proofs.YtpgnlhfokffioaaDoor
namespace Go.Proofs.YtpgnlhfokffioaaDoor
section
open Go.RowKit Go.Lib
structure OR where
  e : TypeId
  sz : Nat
  v : Value
  n : Nat
  xs : List Value
def OR.At (B : Nat) (W : World) (r : OR) : Prop := W.ownsRow B r.e r.sz r.v r.n r.xs
structure Owns (B : Nat) (H : List Nat) (R : List OR) (W : World) : Prop where
  at_ : ∀ r ∈ R, r.At B W
  two : R.Pairwise fun a b => ∀ k, a.v.ownBlock = some k → b.v.ownBlock ≠ some k
  held : ∀ k ∈ H, k < W.heap.size ∧ ∀ r ∈ R, r.v.ownBlock ≠ some k
section
variable {B : Nat} {H : List Nat} {R : List OR} {W W' : World} {r r' : OR}
theorem Owns.nil (hH : ∀ k ∈ H, k < W.heap.size) : Owns B H [] W := ⟨fun _ h => (nomatch h), .nil, fun k hk => ⟨hH k hk, fun _ h => (nomatch h)⟩⟩
theorem Owns.stay {g : Option Nat} (h : Owns B H R W) (hg : W.grownBy W' g) (hr : ∀ k, g = some k → W.heap.size ≤ k ∨ k ∈ H) : Owns B H R W' :=
  ⟨fun r hr2 => own_stay (h.at_ r hr2) hg (fun k hk e => by
    rcases hr k e.symm with h1 | h1
    · have := (blk_lt (h.at_ r hr2) hk).2; omega
    · exact (h.held k h1).2 r hr2 hk), h.two, fun k hk => ⟨Nat.lt_of_lt_of_le (h.held k hk).1 hg.size, (h.held k hk).2⟩⟩
theorem Owns.below (h : Owns B H R W) (hb : Below W.heap.size W W') : Owns B H R W' := h.stay (g := none) ⟨hb.os, hb.tape, hb.output, hb.size, fun k hk _ => hb.block k hk⟩ (fun _ e => (nomatch e))
theorem Owns.chg {q : Nat} (h : Owns B H R W) (s : W.grownBy W' (some q)) (hq : q ∈ H) : Owns B H R W' := h.stay s (fun k e => by injection e with e; subst e; exact .inr hq)
theorem Owns.mono {B' : Nat} (h : Owns B H R W) (hB : B' ≤ B) : Owns B' H R W := ⟨fun r hr => own_mono (h.at_ r hr) hB, h.two, h.held⟩
theorem Owns.get {i : Nat} (h : Owns B H R W) (hi : R[i]? = some r) : r.At B W := h.at_ r (List.mem_of_getElem? hi)
theorem pairwise_set {α : Type} {p : α → α → Prop} (hs : ∀ a b, p a b → p b a) : ∀ {L : List α} {i : Nat} {x : α}, L.Pairwise p → (∀ j y, L[j]? = some y → j ≠ i → p x y) → (L.set i x).Pairwise p
  | [], i, x, _, _ => by simp
  | a :: L, 0, x, h, hx => by
    rw [List.set_cons_zero]
    refine List.pairwise_cons.2 ⟨fun y hy => ?_, (List.pairwise_cons.1 h).2⟩
    obtain ⟨j, hj⟩ := List.mem_iff_getElem?.1 hy
    exact hx (j + 1) y (by rw [List.getElem?_cons_succ]; exact hj) (by omega)
  | a :: L, i + 1, x, h, hx => by
    rw [List.set_cons_succ]
    refine List.pairwise_cons.2 ⟨fun y hy => ?_, pairwise_set hs (List.pairwise_cons.1 h).2 (fun j y hj hne => hx (j + 1) y (by rw [List.getElem?_cons_succ]; exact hj) (by omega))⟩
    rcases List.mem_or_eq_of_mem_set hy with hy | rfl
    · exact (List.pairwise_cons.1 h).1 y hy
    · exact hs _ _ (hx 0 a rfl (by omega))
theorem Owns.set (h : Owns B H R W) (i : Nat) (hi : R[i]? = some r) (hg : W.grownBy W' r.v.ownBlock) (hn : r'.At B W') (hv : ∀ k, r'.v.ownBlock = some k → r.v.ownBlock = some k ∨ W.heap.size ≤ k) : Owns B H (R.set i r') W' := by
  have hR : ∀ (j : Nat) (y : OR), R[j]? = some y → j ≠ i → ∀ k, y.v.ownBlock = some k → r.v.ownBlock ≠ some k := fun j y hj hne k hk e => by
    have hp := List.pairwise_iff_getElem.1 h.two
    obtain ⟨hjl, rfl⟩ := List.getElem?_eq_some_iff.1 hj
    obtain ⟨hil, rfl⟩ := List.getElem?_eq_some_iff.1 hi
    rcases Nat.lt_or_gt_of_ne hne with h1 | h1
    · exact hp j i hjl hil h1 k hk e
    · exact hp i j hil hjl h1 k e hk
  have hrm := List.mem_of_getElem? hi
  refine ⟨fun x hx => ?_, pairwise_set (fun a b hab k hk e => hab k e hk) h.two (fun j y hj hne k hk e => ?_), fun k hk => ⟨Nat.lt_of_lt_of_le (h.held k hk).1 hg.size, fun x hx e => ?_⟩⟩
  · obtain ⟨j, hj⟩ := List.mem_iff_getElem?.1 hx
    by_cases hji : j = i
    · subst hji
      rw [List.getElem?_set_self (List.getElem?_eq_some_iff.1 hi).1] at hj
      injection hj with hj; subst hj; exact hn
    · rw [List.getElem?_set_ne (Ne.symm hji)] at hj
      exact own_stay (h.get hj) hg (fun k hk e => hR j x hj hji k hk e.symm)
  · rcases hv k hk with h1 | h1
    · exact hR j y hj hne k e h1
    · have := (blk_lt (h.get hj) e).2; omega
  · rcases List.mem_or_eq_of_mem_set hx with hx | rfl
    · exact (h.held k hk).2 x hx e
    · rcases hv k e with h1 | h1
      · exact (h.held k hk).2 r hrm h1
      · have := (h.held k hk).1; omega
theorem Owns.add (h : Owns B H R W) (hb : Below W.heap.size W W') (hn : r'.At W.heap.size W') (hB : B ≤ W.heap.size) : Owns B H (R ++ [r']) W' := by
  have h' := h.below hb
  have hlt : ∀ r ∈ R, ∀ k, r.v.ownBlock = some k → r'.v.ownBlock ≠ some k := fun r hr k hk e => by have h1 := (blk_lt (h.at_ r hr) hk).2; have h2 := (blk_lt hn e).1; omega
  refine ⟨fun x hx => ?_, List.pairwise_append.2 ⟨h'.two, List.pairwise_singleton _ _, fun a ha b hb2 k hk => ?_⟩, fun k hk => ⟨(h'.held k hk).1, fun x hx e => ?_⟩⟩
  · rcases List.mem_append.1 hx with hx | hx
    · exact h'.at_ x hx
    · rw [List.mem_singleton.1 hx]; exact own_mono hn hB
  · rw [List.mem_singleton.1 hb2]; exact hlt a ha k hk
  · rcases List.mem_append.1 hx with hx | hx
    · exact (h'.held k hk).2 x hx e
    · rw [List.mem_singleton.1 hx] at e
      have h1 := (blk_lt hn e).1; have h2 := (h.held k hk).1; omega
end
structure Kz (H : List Nat) (W W' : World) : Prop where
  size : W.heap.size ≤ W'.heap.size
  blk : ∀ k ∈ H, k < W.heap.size → W'.heap[k]? = W.heap[k]?
section
variable {H : List Nat} {W W1 W2 : World}
theorem Kz.refl (H : List Nat) (W : World) : Kz H W W := ⟨Nat.le_refl _, fun _ _ _ => rfl⟩
theorem Kz.trans (h1 : Kz H W W1) (h2 : Kz H W1 W2) : Kz H W W2 := ⟨Nat.le_trans h1.size h2.size, fun k hk hl => (h2.blk k hk (Nat.lt_of_lt_of_le hl h1.size)).trans (h1.blk k hk hl)⟩
theorem Kz.grown {g : Option Nat} (h : Kz H W W1) (s : W1.grownBy W2 g) (hg : ∀ k, g = some k → k ∉ H) : Kz H W W2 := h.trans ⟨s.size, fun k hk hl => s.block k hl (fun e => hg k e.symm hk)⟩
theorem Kz.chg {g : Nat} (h : Kz H W W1) (s : W1.grownBy W2 (some g)) (hg : g ∉ H) : Kz H W W2 := h.grown s (fun k e => by injection e with e; subst e; exact hg)
theorem Kz.row {b : Nat} {vs : List Value} (h : Kz H W W1) (hb : b ∈ H) (hr : RowAt W b vs) : RowAt W1 b vs := by
  have e := h.blk b hb hr.2.2
  exact ⟨fun j v hj => (World.cell?_of_block (w := W) (w' := W1) (a := ⟨b, j, none⟩) e).trans (hr.1 j v hj), fun j => (World.frozen?_of_block (w := W) (w' := W1) (a := ⟨b, j, none⟩) e).trans (hr.2.1 j), Nat.lt_of_lt_of_le hr.2.2 h.size⟩
end
theorem below_grown {B : Nat} {g : Option Nat} {W0 W W' : World} (h : Below B W0 W) (s : W.grownBy W' g) (hg : ∀ k, g = some k → B ≤ k) (hB : B ≤ W.heap.size) : Below B W0 W' := h.trans ⟨s.os, s.tape, s.output, s.size, fun k hk => s.block k (by omega) (fun e => by have := hg k e.symm; omega)⟩
end
end Go.Proofs.YtpgnlhfokffioaaDoor
namespace Go.Proofs.YtpgnlhfokffioaaDoor
section
open Go.RowKit Go.Lib
abbrev OB (W : World) (B : Nat) (a : Option Addr) (c : Nat) (l : List UInt8) : Prop := W.ownsRow B 5 1 (.slice a l.length c) l.length (l.map B8)
theorem ob_nil (W : World) (B : Nat) : OB W B none 0 [] := World.ownsRow_nil _ _ _ _
theorem app_str_blk {P : Program} {w : World} {base t u ty e : Nat} {i : TypeInfo} (ht : P.underlying t = some (.slice e)) (hu : P.underlying u = some .string) (hi : P.info? e = some i) (hz : i.zero = some (.int .u8 0)) (hsize : i.size = 1) (hby : i.bytes = 1) {v v' : Value} {n : Nat} {xs : List Value} {w' : World}
    (hown : w.ownsRow base e 1 v n xs) (s : ByteArray) (hn : n ≤ 10000000) (hs : s.size ≤ 10000000) (hr : (Builtin.append_ #[t, u] ty #[v, .string s]).run P w = .ok v' w') : v'.ownBlock = v.ownBlock ∨ ∃ k, v'.ownBlock = some k ∧ w.heap.size ≤ k := by
  have hxl : xs.length = n := by simpa using hown.1
  rcases hown.2 with ⟨rfl, rfl⟩ | ⟨g, cap, cur, rfl, -, hg, hnc, -, hcs, -⟩
  · obtain ⟨v2, w2, hr2, ho2, -, -⟩ := run_append_own_string (P := P) (w := w) w.heap.size t u ty e i ht hu hi hz hsize hby (.slice none 0 0) 0 [] (World.ownsRow_nil _ _ _ _) s (by unfold maxLen; omega) (by omega) (Nat.le_refl _)
    rw [hr2] at hr
    injection hr with e1 e2
    subst e1
    cases hb : v2.ownBlock with
    | none => exact .inl rfl
    | some k => exact .inr ⟨k, rfl, (ho2.lt k hb).1⟩
  · by_cases hroom : n + s.size ≤ cap
    · have hcs' : cur.size = cap := by simpa using hcs
      have h2 := run_append_room_string (P := P) (w := w) t u ty e i ht hu hi hsize g n cap cur hg s hroom (by omega)
      rw [h2] at hr
      injection hr with e1 e2
      subst e1
      exact .inl rfl
    · have h2 := run_append_grow_string (P := P) (w := w) t u ty e i (.int .u8 0) ht hu hi hz ⟨g, 0, none⟩ n cap xs (by rw [hsize]; simpa using hxl) (fun j u hj => hown.cells (g := g) rfl j u hj) s (by omega) (by omega) (by rw [hby]; exact growslice_fits (by omega) (by omega))
      rw [h2] at hr
      injection hr with e1 e2
      subst e1
      exact .inr ⟨_, rfl, Nat.le_refl _⟩
theorem opTo_up {P : Program} {o : Oper} {a : Act} {w : World} {K K' : Value → World → Prop} (h : opTo P o a w K) (hk : ∀ v w', K v w' → K' v w') : opTo P o a w K' := by
  unfold opTo at h ⊢
  rcases h with ⟨v, w', h1, h2⟩ | ⟨f, args, h1, h2⟩ | ⟨w', h1, h2⟩
  · exact .inl ⟨v, w', h1, hk _ _ h2⟩
  · exact .inr (.inl ⟨f, args, h1, h2.mono fun e w' h => by obtain ⟨v, he, hv⟩ := h; exact ⟨v, he, hk _ _ hv⟩⟩)
  · exact .inr (.inr ⟨w', h1, hk _ _ h2⟩)
theorem opTo_str {o : Oper} {a : Act} {w : World} (s x : Operand) (ho : o.op = .call { callee := .builtin .append, args := #[s, x], argTypes := #[31, 9] }) {B : Nat} {ad : Option Addr} {c : Nat} {l : List UInt8} {t : ByteArray} (hs : a.eval s = .slice ad l.length c) (hown : OB w B ad c l) (hx : a.eval x = .string t) (h1 : l.length ≤ 1000000) (h2 : t.size ≤ 1000000) (hB : B ≤ w.heap.size) :
    opTo Tryd.prog o a w fun v' w' => ∃ l' a' c', v' = .slice a' l'.length c' ∧ l' = l ++ t.data.toList ∧ Grew w w' (.slice ad l.length c) v' ∧ OB w' B a' c' l' := by
  obtain ⟨i0, hi, hz0, hz1, hz2⟩ := info_parts infoU8
  obtain ⟨v', w', hr, h3, h4, -⟩ := run_append_own_string (P := Tryd.prog) (w := w) B 31 9 o.type 5 i0 Tryd.underlying31 Tryd.underlying9 hi hz0 hz1 hz2 _ _ _ hown t (by unfold maxLen; omega) (by omega) hB
  have hblk := app_str_blk (P := Tryd.prog) Tryd.underlying31 Tryd.underlying9 hi hz0 hz1 hz2 hown t (by omega) (by omega) hr
  have e : l.map B8 ++ strCells t = (l ++ t.data.toList).map B8 := by rw [List.map_append]; rfl
  rw [e] at h3
  have hl : (l ++ t.data.toList).length = l.length + t.size := by rw [List.length_append, Array.length_toList]; rfl
  rw [← hl] at h3
  obtain ⟨a', c', rfl⟩ := own_slice h3
  refine .inl ⟨_, w', ?_, _, a', c', rfl, rfl, ⟨h4, hblk⟩, h3⟩
  unfold execOp
  simp only [ho, resolve, invoke, builtin, Sem.run_bind, Sem.run_pure, Result.andThen_ok, List.map_toArray, List.map_cons, List.map_nil, hs, hx, hr]
theorem opTo_byt {o : Oper} {a : Act} {w : World} (s x : Operand) (ho : o.op = .call { callee := .builtin .append, args := #[s, x], argTypes := #[31, 31] }) {B : Nat} {ad : Option Addr} {c : Nat} {l k : List UInt8} {vx : Value} (hs : a.eval s = .slice ad l.length c) (hown : OB w B ad c l) (hx : a.eval x = vx) (hk : Sl w vx k) (h1 : l.length ≤ 1000000) (h2 : k.length ≤ 1000000) (hB : B ≤ w.heap.size) :
    opTo Tryd.prog o a w fun v' w' => ∃ l' a' c', v' = .slice a' l'.length c' ∧ l' = l ++ k ∧ Grew w w' (.slice ad l.length c) v' ∧ OB w' B a' c' l' := by
  have h := opTo_bytes s x ho B (.slice ad l.length c) l.length l k hs hown vx hx hk (by omega) (by omega) hB
  refine opTo_up h fun v' w' hv => ?_
  obtain ⟨h3, h4⟩ := hv
  have hl : (l ++ k).length = l.length + k.length := List.length_append
  rw [← hl] at h4
  obtain ⟨a', c', rfl⟩ := own_slice h4
  exact ⟨_, a', c', rfl, rfl, h3, h4⟩
theorem grew_off {W W' : World} {v v' : Value} {q : Nat} (hg : Grew W W' v v') (h : ∀ k, v.ownBlock = some k → k ≠ q) (hq : q < W.heap.size) : ∀ k, v'.ownBlock = some k → k ≠ q := by
  intro k hk
  rcases hg.2 with h1 | ⟨k', h1, hle⟩
  · exact h k (h1.symm.trans hk)
  · rw [h1] at hk; injection hk; omega
theorem ob_chg {B q c : Nat} {a : Option Addr} {l : List UInt8} {W W' : World} (h : OB W B a c l) (s : W.grownBy W' (some q)) (hn : ∀ k, (Value.slice a l.length c).ownBlock = some k → k ≠ q) : OB W' B a c l := own_stay h s (fun k hk e => hn k hk (Option.some.inj e))
theorem row_grew {q c : Nat} {a : Option Addr} {l : List UInt8} {W W' : World} {v' : Value} {vs : List Value} (r : RowAt W q vs) (hg : Grew W W' (.slice a l.length c) v') (hn : ∀ k, (Value.slice a l.length c).ownBlock = some k → k ≠ q) : RowAt W' q vs := rowAt_keep r hg.1 (fun e => hn q e.symm rfl)
theorem ob_off {B q c : Nat} {a : Option Addr} {l : List UInt8} {W : World} (h : OB W B a c l) (hq : q < B) : ∀ k, (Value.slice a l.length c).ownBlock = some k → k ≠ q := fun k hk e => by have := (blk_lt h hk).1; omega
theorem ob_new {B q c : Nat} {a : Option Addr} {l : List UInt8} {W : World} (h : OB W B a c l) (hq : W.heap.size ≤ q) : ∀ k, (Value.slice a l.length c).ownBlock = some k → k ≠ q := fun k hk e => by have := (blk_lt h hk).2; omega
theorem ob_low {B b c : Nat} {a : Option Addr} {l : List UInt8} {W0 W W' : World} {v' : Value} (h : Below b W0 W) (ho : OB W B a c l) (hg : Grew W W' (.slice a l.length c) v') (hb : b ≤ B) (hB : b ≤ W.heap.size) : Below b W0 W' := below_grown h hg.1 (fun _ hk => Nat.le_trans hb (blk_lt ho hk).1) hB
theorem slB (W : World) (q : Nat) (x : UInt8) (r : RowAt W q [B8 x]) : Sl W (.slice (some ⟨q, 0, none⟩) 1 1) [x] :=
  ⟨some ⟨q, 0, none⟩, 1, rfl, Nat.le_refl _, by unfold maxLen; decide, fun e => (nomatch e), fun _ => ⟨q, 0, rfl, r.2.2, fun j y hj => by
    match j, hj with
    | 0, hj => simp at hj; subst hj; exact r.1 0 _ rfl⟩⟩
theorem slBB (W : World) (q : Nat) (x y : UInt8) (r : RowAt W q [B8 x, B8 y]) : Sl W (.slice (some ⟨q, 0, none⟩) 2 2) [x, y] :=
  ⟨some ⟨q, 0, none⟩, 2, rfl, Nat.le_refl _, by unfold maxLen; decide, fun e => (nomatch e), fun _ => ⟨q, 0, rfl, r.2.2, fun j z hj => by
    match j, hj with
    | 0, hj => simp at hj; subst hj; exact r.1 0 _ rfl
    | 1, hj => simp at hj; subst hj; exact r.1 1 _ rfl⟩⟩
/-! calls that put something behind -/
section
variable {B : Nat} {ad : Option Addr} {c : Nat} {l : List UInt8} {w : World}
abbrev Put (B : Nat) (w : World) (ad : Option Addr) (c : Nat) (l k : List UInt8) (e : Ending) (w' : World) : Prop := ∃ l' a' c', e = .returned (.slice a' l'.length c') ∧ l' = l ++ k ∧ Grew w w' (.slice ad l.length c) (.slice a' l'.length c') ∧ OB w' B a' c' l'
theorem numPut (v : Int) (n : Nat) (hown : OB w B ad c l) (hn : n ≤ 8) (hl : l.length ≤ 1000000) (hB : B ≤ w.heap.size) : Calls Tryd.prog 77 #[.slice ad l.length c, .int .i64 (n : Int), .int .i64 v] w (Put B w ad c l (bigv v n)) := by
  refine (numAppend_any B l.length (.slice ad l.length c) l n v w hown hn hl hB).mono ?_
  rintro e w' ⟨v', rfl, h1, h2⟩
  have hl2 : (l ++ bigv v n).length = l.length + n := by rw [List.length_append, bigv_length]
  rw [← hl2] at h2
  obtain ⟨a', c', rfl⟩ := own_slice h2
  exact ⟨_, a', c', rfl, rfl, h1, h2⟩
def encS (s : ByteArray) : List UInt8 := bigv s.size 2 ++ s.data.toList
theorem encS_len (s : ByteArray) : (encS s).length = 2 + s.size := by unfold encS; rw [List.length_append, bigv_length, Array.length_toList]; rfl
end
def b8I (x : Int) : UInt8 := UInt8.ofNat (x % 256).toNat
theorem b8I_nat (x : Int) : ((b8I x).toNat : Int) = x % 256 := by unfold b8I; simp only [UInt8.toNat_ofNat']; omega
theorem cvI8 (x : Int) (w : World) : (convert 3 5 (.int .i64 x)).run Tryd.prog w = .ok (B8 (b8I x)) w := by
  show _ = Result.ok (Value.int .u8 ((b8I x).toNat : Int)) w
  rw [b8I_nat]
  simp [go_sem, convert, IntKind.wrap_u8]
theorem orI (x y : Int) (w : World) : (binOp .or 3 (.int .i64 x) (.int .i64 y)).run Tryd.prog w = .ok (.int .i64 (bits .or .i64 x y)) w := by simp [go_sem]
theorem shl1 (x : Int) (h0 : 0 ≤ x) (h1 : x ≤ 1000) (w : World) : (binOp .shl 3 (.int .i64 x) (.int .u64 1)).run Tryd.prog w = .ok (.int .i64 (x * 2)) w := by
  have := wrap_i64 (x * 2) (by omega) (by omega)
  simp [go_sem, this]
theorem shl3 (x : Int) (h0 : 0 ≤ x) (h1 : x ≤ 1000) (w : World) : (binOp .shl 3 (.int .i64 x) (.int .u64 3)).run Tryd.prog w = .ok (.int .i64 (x * 8)) w := by
  have := wrap_i64 (x * 8) (by omega) (by omega)
  simp [go_sem, this]
theorem shl4 (x : Int) (h0 : 0 ≤ x) (h1 : x ≤ 1000) (w : World) : (binOp .shl 3 (.int .i64 x) (.int .u64 4)).run Tryd.prog w = .ok (.int .i64 (x * 16)) w := by
  have := wrap_i64 (x * 16) (by omega) (by omega)
  simp [go_sem, this]
def lenG (n : Nat) : List UInt8 := lenB 4 n
theorem lenB_up : ∀ (k n : Nat), n < 128 ^ (k + 1) → lenB (k + 1) n = lenB k n
  | 0, n, h => by unfold lenB; rw [if_pos (by simpa using h)]
  | k + 1, n, h => by
    unfold lenB
    split
    · rfl
    · rw [lenB_up k (n / 128) (by rw [Nat.div_lt_iff_lt_mul (by decide)]; rwa [Nat.pow_succ] at h)]
theorem lenG_small {n : Nat} (h : n < 128) : lenG n = [UInt8.ofNat n] := by unfold lenG lenB; rw [if_pos h]
theorem lenG_step {n : Nat} (h : 128 ≤ n) (h2 : n < 268435456) : lenG n = UInt8.ofNat (n % 128 + 128) :: lenG (n / 128) := by
  have e : lenG n = if n < 128 then [UInt8.ofNat n] else UInt8.ofNat (n % 128 + 128) :: lenB 3 (n / 128) := rfl
  rw [e, if_neg (by omega)]
  unfold lenG
  rw [lenB_up 3 (n / 128) (by omega)]
theorem or128 (n : Nat) (h : n < 128) : bits .or .i64 ((n : Nat) : Int) 128 = ((n + 128 : Nat) : Int) := by
  have h0 : ((List.range 128).all fun n => bits .or .i64 ((n : Nat) : Int) 128 == ((n + 128 : Nat) : Int)) = true := by decide +kernel
  exact beq_iff_eq.1 (List.all_eq_true.1 h0 n (List.mem_range.2 h))
theorem b8I_ofNat (n : Nat) : b8I ((n : Nat) : Int) = UInt8.ofNat n := by
  unfold b8I
  apply UInt8.toNat_inj.1
  simp only [UInt8.toNat_ofNat']
  omega
theorem b8c4 : (Value.int .u8 4) = B8 4 := rfl
theorem bs8_1 {ρ : Operand → Value} {d : Option Tmp} {ty : TypeId} {pos : String} {af : Array Edge} {g : Option (Nat × Bool)} {x0 : Operand} {u0 : UInt8} (w : World) (h0 : ρ x0 = B8 u0) : (execOp ρ ⟨d, .buildSlice 31 1 #[(0, x0)], ty, pos, af, g⟩).run Tryd.prog w = .ok (.value (.slice (some ⟨w.heap.size, 0, none⟩) 1 1)) (w.alloc (.cells ([B8 u0] : List Value).toArray 5)) := by
  simp [execOp, h0, go_sem, Instr.buildSlice]
theorem bs8_2 {ρ : Operand → Value} {d : Option Tmp} {ty : TypeId} {pos : String} {af : Array Edge} {g : Option (Nat × Bool)} {x0 x1 : Operand} {u0 u1 : UInt8} (w : World) (h0 : ρ x0 = B8 u0) (h1 : ρ x1 = B8 u1) : (execOp ρ ⟨d, .buildSlice 31 2 #[(0, x0), (1, x1)], ty, pos, af, g⟩).run Tryd.prog w = .ok (.value (.slice (some ⟨w.heap.size, 0, none⟩) 2 2)) (w.alloc (.cells ([B8 u0, B8 u1] : List Value).toArray 5)) := by
  simp [execOp, h0, h1, go_sem, Instr.buildSlice]
theorem quoN (n : Nat) (w : World) (h : n ≤ 1000000000) : (binOp .quo 3 (.int .i64 (n : Int)) (.int .i64 128)).run Tryd.prog w = .ok (.int .i64 ((n / 128 : Nat) : Int)) w := by
  have := wrap_i64 ((n / 128 : Nat) : Int) (by omega) (by omega)
  simp [go_sem, Int.tdiv_eq_ediv_of_nonneg (show (0 : Int) ≤ n by omega)]
  push_cast at this; exact this
theorem remN (n : Nat) (w : World) (h : n ≤ 1000000000) : (binOp .rem 3 (.int .i64 (n : Int)) (.int .i64 128)).run Tryd.prog w = .ok (.int .i64 ((n % 128 : Nat) : Int)) w := by
  have := wrap_i64 ((n % 128 : Nat) : Int) (by omega) (by omega)
  simp [go_sem, Int.tmod_eq_emod_of_nonneg (show (0 : Int) ≤ n by omega)]
structure Small (m : Mq) : Prop where
  k : 1 ≤ m.k ∧ m.k ≤ 14
  cl : m.cl.size ≤ 1000
  wT : m.wT.size ≤ 1000
  wP : m.wP.size ≤ 1000
  us : m.us.size ≤ 1000
  pa : m.pa.size ≤ 1000
  top : m.top.size ≤ 1000
  pay : m.pay.size ≤ 1000
  wQ : 0 ≤ m.wQ ∧ m.wQ ≤ 2
  q : 0 ≤ m.q ∧ m.q ≤ 2
  cs : m.cs.length ≤ 8
  ws : m.ws.length ≤ 8
  fs : m.fs.length ≤ 8
  wsf : ∀ s ∈ m.ws, s.f.size ≤ 1000
  fsf : ∀ s ∈ m.fs, s.size ≤ 1000
def cfG (m : Mq) : Int := bits .or .i64 (bits .or .i64 (bits .or .i64 (bits .or .i64 (bits .or .i64 (flg m.clean 2) (flg m.wI 4)) (m.wQ * 8)) (flg m.wR 32)) (flg m.hp 64)) (flg m.hu 128)
def flG (m : Mq) : Int := if m.k == 3 then bits .or .i64 (bits .or .i64 (flg m.dup 8) (m.q * 2)) (flg m.re 1) else if (m.k == 6 || m.k == 8 || m.k == 10) then 2 else 0
def mqtt : List UInt8 := [0, 4, 77, 81, 84, 84]
def cbG (m : Mq) : List UInt8 := mqtt ++ [4, b8I (cfG m)] ++ bigv m.keep 2 ++ encS m.cl ++ (if m.wI then encS m.wT ++ encS m.wP else []) ++ (if m.hu then encS m.us else []) ++ (if m.hp then encS m.pa else [])
def encW (x : EWish) : List UInt8 := encS x.f ++ [b8I x.q]
def bdG (m : Mq) : List UInt8 :=
  if m.k == 1 then cbG m else if m.k == 2 then [b8I (flg m.pres 1), b8I m.code]
  else if m.k == 3 then encS m.top ++ (if decide (0 < m.q) then bigv m.id 2 else []) ++ m.pay.data.toList
  else if (m.k == 12 || m.k == 13 || m.k == 14) then []
  else bigv m.id 2 ++ m.ws.flatMap encW ++ m.cs.map b8I ++ m.fs.flatMap encS
def enG (m : Mq) : List UInt8 := b8I (bits .or .i64 (m.k * 16) (flG m)) :: (lenG (bdG m).length ++ bdG m)
section
variable {B : Nat} {ad : Option Addr} {c : Nat} {l : List UInt8} {w : World}
theorem grew_below2 {W W' : World} {v v' : Value} (h : Grew w W v v') (hb : Below W.heap.size W W') : Grew w W' v v' := h.trans ⟨⟨hb.os, hb.tape, hb.output, hb.size, fun k hk _ => hb.block k hk⟩, .inl rfl⟩
theorem strPut (s : ByteArray) (hown : OB w B ad c l) (hs : s.size ≤ 1000) (hl : l.length ≤ 900000) (hB : B ≤ w.heap.size) : Calls Tryd.prog 76 #[.slice ad l.length c, .string s] w (Put B w ad c l (encS s)) := by
  have hb0 := Below.refl B w
  have hBs := hB
  have hBw := hB
  have hwB : B ≤ B := Nat.le_refl _
  refine fw_en 11 [(0, .slice ad l.length c), (1, .string s)] Tryd.func76 rfl Tryd.ntmps76 rfl ⟨rfl, rfl, trivial⟩ ?_
  refine fw_sq (fw_rg rfl (fw_pu rfl (fw_dt (fw_sq (fw_rg rfl ?_)))))
  iterate 3 refine fw_pu rfl ?_
  refine fw_ca Tryd.func77 rfl rfl rfl (numPut (l := l) (ad := ad) (c := c) (s.size : Int) 2 hown (by decide) (by omega) hBs) ?_
  rintro _ V2 ⟨l1, a1, c1, rfl, hl1, hg1, ho1⟩
  refine ⟨_, rfl, ?_⟩
  have b3 := ob_low hb0 hown hg1 hwB (Nat.le_trans hwB hBs)
  have hBs := Nat.le_trans hBs hg1.1.size
  refine fw_pu rfl ?_
  refine fw_to 10 rfl rfl rfl (fun a h => opTo_str (l := l1) (ad := a1) (c := c1) _ _ rfl (h.ev rfl) ho1 (h.ev rfl) (by (try rw [hl1, List.length_append, bigv_length]); omega) (by omega) hBs) ?_
  rintro _ V5 ⟨l4, a4, c4, rfl, hl4, hg4, ho4⟩
  have b6 := ob_low b3 ho1 hg4 hwB (Nat.le_trans hwB hBs)
  have hBs := Nat.le_trans hBs hg4.1.size
  refine fw_pu rfl (fw_dt (fw_rt ?_))
  refine ⟨fun a h => ?_⟩
  exact ow_ret1 rfl h.df (h.g 4 rfl) ⟨_, _, _, rfl, by rw [hl4, hl1]; unfold encS; rw [List.append_assoc], (hg1.trans hg4), ho4⟩
theorem lenPut (n : Nat) (hn : n < 100000) (hown : OB w B ad c l) (hl : l.length ≤ 900000) (hB : B ≤ w.heap.size) : Calls Tryd.prog 52 #[.slice ad l.length c, .int .i64 (n : Int)] w (Put B w ad c l (lenG n)) := by
  have hb0 := Below.refl B w
  have hBs := hB
  have hBw := hB
  have hwB : B ≤ B := Nat.le_refl _
  refine fw_en 21 [(0, .slice ad l.length c), (1, .int .i64 ((n : Nat) : Int))] Tryd.func52 rfl Tryd.ntmps52 rfl ⟨rfl, rfl, trivial⟩ ?_
  refine fw_sq (fw_rg rfl (fw_pu rfl (fw_dt (fw_sq (fw_bk ?_)))))
  refine fw_lp (fun N K W => ∃ (j : Nat) (lj : List UInt8) (aj : Option Addr) (cj : Nat), N = j + 1 ∧ j ≤ n ∧ lj ++ lenG j = l ++ lenG n ∧ lj.length + j ≤ l.length + n ∧ B ≤ W.heap.size ∧ K = [(0, .slice aj lj.length cj), (1, .int .i64 ((j : Nat) : Int))] ∧ Below B w W ∧ OB W B aj cj lj ∧ Grew w W (.slice ad l.length c) (.slice aj lj.length cj)) _ _ ⟨n, l, ad, c, rfl, Nat.le_refl _, rfl, (by omega), hBs, rfl, hb0, hown, (Grew.refl w _)⟩ ⟨(by first | rfl | (simp only [Look, cond, Nat.beq]; first | rfl | (congr 2; first | rfl | omega | (push_cast; omega)) | (simp; try omega))), (by first | rfl | (simp only [Look, cond, Nat.beq]; first | rfl | (congr 2; first | rfl | omega | (push_cast; omega)) | (simp; try omega))), trivial⟩ ?_
  rintro N _ W1 ⟨j, lj, aj, cj, rfl, hjn, hlj, hln, hBs, rfl, bW1, gW1_0, gW1_1⟩
  intro K3 hK3
  refine fw_sq (fw_sq (fw_rg rfl ?_))
  iterate 2 refine fw_pu rfl ?_
  refine fw_dt ?_
  rcases Bool.eq_false_or_eq_true ((decide (128 ≤ ((j : Nat) : Int)))) with hb_4 | hb_4
  · skip
    refine fw_cT rfl hb_4 (fw_sk (fw_th (fw_bk (fw_sq ?_))))
    have hj := of_decide_eq_true hb_4
    have hj1 : 128 ≤ j := by omega
    have hst := lenG_step hj1 (by omega)
    refine fw_rg rfl ?_
    iterate 2 refine fw_pu rfl ?_
    refine fw_ex 9 (.int .i64 (((j % 128) : Nat) : Int)) rfl rfl rfl (fun a h => (run_binOp (h.ev rfl) (h.ev rfl) (by simp [go_sem]) (remN _ _ (by omega)))) ?_
    refine fw_ex 10 (.int .i64 (((j % 128 + 128) : Nat) : Int)) rfl rfl rfl (fun a h => (run_binOp (h.ev rfl) (h.ev rfl) (by simp [go_sem]) (by rw [orI, or128 _ (by omega)]))) ?_
    refine fw_ex 11 (B8 (b8I (((j % 128 + 128) : Nat) : Int))) rfl rfl rfl (fun a h => (run_convOp (h.ev rfl) (cvI8 _ _))) ?_
    refine fw_al (t := 5) (u := fun q => .slice (some ⟨q, 0, none⟩) 1 1) 12 [B8 (b8I (((j % 128 + 128) : Nat) : Int))] rfl rfl rfl (fun a h => (bs8_1 _ (h.ev rfl))) ?_
    intro q5 W6 g9 s7 r8
    have := Nat.le_trans (Nat.le_trans hBw bW1.size) g9
    have hapq5 := ob_new gW1_0 g9
    have b10 := bW1.trans (s7.mono (Nat.le_trans hBw bW1.size))
    have f11 := (below_own gW1_0 s7)
    have f12 := (grew_below2 gW1_1 s7)
    have hBs := Nat.le_trans hBs s7.size
    refine fw_to 13 rfl rfl rfl (fun a h => opTo_byt (l := lj) (ad := aj) (c := cj) _ _ rfl (h.ev rfl) f11 (h.ev rfl) (slB _ _ (b8I (((j % 128 + 128) : Nat) : Int)) r8) (by omega) (by simp) hBs) ?_
    rintro _ V14 ⟨l13, a13, c13, rfl, hl13, hg13, ho13⟩
    have r15 := row_grew r8 hg13 hapq5
    replace hapq5 := grew_off hg13 hapq5 r8.2.2
    have b16 := ob_low b10 f11 hg13 hwB (Nat.le_trans hwB hBs)
    have hBs := Nat.le_trans hBs hg13.1.size
    refine fw_pu rfl (fw_dt (fw_rg rfl (fw_pu rfl ?_)))
    refine fw_ex 15 (.int .i64 (((j / 128) : Nat) : Int)) rfl rfl rfl (fun a h => (run_binOp (h.ev rfl) (h.ev rfl) (by simp [go_sem]) (quoN _ _ (by omega)))) ?_
    refine fw_pu rfl (fw_dn (fw_bn ?_))
    exact fw_th (fw_gf (hK3 _ _ _ (by omega) ⟨(j / 128), l13, a13, c13, rfl, (by omega), (by rw [← hlj, hl13, hst, b8I_ofNat, List.append_assoc]; rfl), (by rw [hl13, List.length_append]; simp only [List.length_cons, List.length_nil]; omega), hBs, rfl, b16, ho13, (Grew.trans f12 hg13)⟩) ⟨(by first | rfl | (simp only [Look, cond, Nat.beq]; first | rfl | (congr 2; first | rfl | omega | (push_cast; omega)) | (simp; try omega))), (by first | rfl | (simp only [Look, cond, Nat.beq]; first | rfl | (congr 2; first | rfl | omega | (push_cast; omega)) | (simp; try omega))), trivial⟩)
  refine fw_cF rfl hb_4 (fw_xt (fw_te (fw_te (fw_be (fw_th (fw_sq ?_))))))
  have hj := of_decide_eq_false hb_4
  have hst := lenG_small (n := j) (by omega)
  refine fw_rg rfl ?_
  iterate 2 refine fw_pu rfl ?_
  refine fw_ex 18 (B8 (b8I ((j : Nat) : Int))) rfl rfl rfl (fun a h => (run_convOp (h.ev rfl) (cvI8 _ _))) ?_
  refine fw_al (t := 5) (u := fun q => .slice (some ⟨q, 0, none⟩) 1 1) 19 [B8 (b8I ((j : Nat) : Int))] rfl rfl rfl (fun a h => (bs8_1 _ (h.ev rfl))) ?_
  intro q17 W18 g21 s19 r20
  have := Nat.le_trans (Nat.le_trans hBw bW1.size) g21
  have hapq17 := ob_new gW1_0 g21
  have b22 := bW1.trans (s19.mono (Nat.le_trans hBw bW1.size))
  have f23 := (below_own gW1_0 s19)
  have f24 := (grew_below2 gW1_1 s19)
  have hBs := Nat.le_trans hBs s19.size
  refine fw_to 20 rfl rfl rfl (fun a h => opTo_byt (l := lj) (ad := aj) (c := cj) _ _ rfl (h.ev rfl) f23 (h.ev rfl) (slB _ _ (b8I ((j : Nat) : Int)) r20) (by omega) (by simp) hBs) ?_
  rintro _ V26 ⟨l25, a25, c25, rfl, hl25, hg25, ho25⟩
  have r27 := row_grew r20 hg25 hapq17
  replace hapq17 := grew_off hg25 hapq17 r20.2.2
  have b28 := ob_low b22 f23 hg25 hwB (Nat.le_trans hwB hBs)
  have hBs := Nat.le_trans hBs hg25.1.size
  refine fw_pu rfl (fw_dt (fw_rt ?_))
  refine ⟨fun a h => ?_⟩
  exact ow_ret1 rfl h.df (h.g 4 rfl) ⟨_, _, _, rfl, by rw [hl25, ← hlj, hst, b8I_ofNat], (Grew.trans f24 hg25), ho25⟩
end
theorem str_len (t : ByteArray) : t.data.toList.length = t.size := Array.length_toList
theorem one_len (x : UInt8) : [x].length = 1 := rfl
theorem two_len (x y : UInt8) : [x, y].length = 2 := rfl
theorem nil_len : ([] : List UInt8).length = 0 := rfl
theorem ob_apart {B B1 c c1 : Nat} {a a1 : Option Addr} {l l1 : List UInt8} {W W' : World} {v' : Value} (h : OB W B1 a1 c1 l1) (hg : Grew W W' (.slice a l.length c) v') (ho : OB W B a c l) (hn : ∀ k, (Value.slice a1 l1.length c1).ownBlock = some k → k < B) : OB W' B1 a1 c1 l1 :=
  own_stay h hg.1 (fun k hk e => by have h1 := hn k hk; have h2 := (blk_lt ho e.symm).1; omega)
theorem opTo_bs1 {o : Oper} {a : Act} {w : World} {x0 : Operand} {u : UInt8} (ho : o.op = .buildSlice 31 1 #[(0, x0)]) (h0 : a.eval x0 = B8 u) : opTo Tryd.prog o a w fun v' w' => ∃ l' a' c', v' = .slice a' l'.length c' ∧ l' = [u] ∧ Below w.heap.size w w' ∧ OB w' w.heap.size a' c' l' := by
  refine .inl ⟨_, w.alloc (.cells ([B8 u] : List Value).toArray 5), ?_, [u], _, _, rfl, rfl, (Below.refl _ w).alloc (Nat.le_refl _) _, ⟨rfl, .inr ⟨w.heap.size, 1, #[B8 u], rfl, Nat.le_refl _, heap_alloc_new w _, Nat.le_refl _, by unfold maxLen; omega, rfl, rfl⟩⟩⟩
  obtain ⟨dst, op, ty, pos, af, g⟩ := o
  dsimp only at ho
  subst ho
  exact bs8_1 w h0
set_option maxRecDepth 100000 in
set_option maxHeartbeats 4000000 in
theorem connectFlagsG (m : Mq) (ac aw af : Option Addr) (nc nw nf cc cw cf : Nat) (w : World) (hS : Small m) :
    Calls Tryd.prog 94 #[.agg (Mq.row m (.slice ac nc cc) (.slice aw nw cw) (.slice af nf cf)).toArray] w fun e w' => e = .returned (.int .i64 (cfG m)) ∧ Below w.heap.size w w' := by
  have hb0 := Below.refl w.heap.size w
  have hS0 := hS.cl
  have hS1 := hS.wT
  have hS2 := hS.wP
  have hS3 := hS.us
  have hS4 := hS.pa
  have hS5 := hS.top
  have hS6 := hS.pay
  have hS7 := hS.wQ
  have hS8 := hS.q
  have hS9 := hS.k
  have hS10 := hS.cs
  have hS11 := hS.ws
  have hS12 := hS.fs
  refine fw_en 29 [(0, .agg (Mq.row m (.slice ac nc cc) (.slice aw nw cw) (.slice af nf cf)).toArray)] Tryd.func94 rfl Tryd.ntmps94 rfl ⟨rfl, trivial⟩ ?_
  refine fw_sq (fw_rg rfl (fw_bx rfl (cs := [.int .i64 m.k, .string m.cl, .bool m.clean, .int .i64 m.keep, .bool m.wI, .string m.wT, .string m.wP, .int .i64 m.wQ, .bool m.wR, .string m.us, .bool m.hu, .string m.pa, .bool m.hp, .bool m.pres, .int .i64 m.code, .slice ac nc cc, .bool m.dup, .int .i64 m.q, .bool m.re, .string m.top, .int .i64 m.id, .string m.pay, .slice aw nw cw, .slice af nf cf]) rfl ?_))
  intro q1 W2 g5 s3 r4
  have := Nat.le_trans hb0.size g5
  have b6 := hb0.trans (s3.mono hb0.size)
  refine fw_pu rfl (fw_dt (fw_sq ?_))
  refine fw_hr (fun X => Below w.heap.size w X ∧ RowAt X q1 (Mq.row m (.slice ac nc cc) (.slice aw nw cw) (.slice af nf cf))) (by kernel_rfl) 27 rfl ?_
  intro W7 s8
  have b9 := b6.trans (s8.mono b6.size)
  have r10 := r4.below s8
  refine ⟨⟨b9, r10⟩, ?_⟩
  refine fw_tk 0 rfl rfl (by kernel_rfl) (fun _ _ _ _ _ h => h) ?_
  refine fw_tl 1 (fun _ h => h.2) rfl rfl rfl (by kernel_rfl) (fun _ _ _ _ _ h => h) ?_
  refine fw_tk 3 rfl rfl (by kernel_rfl) (fun _ _ _ _ _ h => h) ?_
  refine fw_tk 4 rfl rfl (by kernel_rfl) (fun _ _ _ _ _ h => h) ?_
  refine fw_tl 5 (fun _ h => h.2) rfl rfl rfl (by kernel_rfl) (fun _ _ _ _ _ h => h) ?_
  refine fw_tk 8 rfl rfl (by kernel_rfl) (fun _ _ _ _ _ h => h) ?_
  refine fw_tk 9 rfl rfl (by kernel_rfl) (fun _ _ _ _ _ h => h) ?_
  refine fw_tl 10 (fun _ h => h.2) rfl rfl rfl (by kernel_rfl) (fun _ _ _ _ _ h => h) ?_
  refine fw_tx 11 14 (.int .i64 (m.wQ * 8)) rfl rfl rfl rfl (fun a h W hW => by obtain ⟨b9, r10⟩ := hW; exact (run_binOp (h.ev rfl) (h.ev rfl) (by simp [go_sem]) (shl3 _ (by omega) (by omega) _))) (by kernel_rfl) (fun _ _ _ _ _ h => h) ?_
  refine fw_tk 13 rfl rfl (by kernel_rfl) (fun _ _ _ _ _ h => h) ?_
  refine fw_tk 14 rfl rfl (by kernel_rfl) (fun _ _ _ _ _ h => h) ?_
  refine fw_tl 15 (fun _ h => h.2) rfl rfl rfl (by kernel_rfl) (fun _ _ _ _ _ h => h) ?_
  refine fw_tk 18 rfl rfl (by kernel_rfl) (fun _ _ _ _ _ h => h) ?_
  refine fw_tl 19 (fun _ h => h.2) rfl rfl rfl (by kernel_rfl) (fun _ _ _ _ _ h => h) ?_
  refine fw_tk 22 rfl rfl (by kernel_rfl) (fun _ _ _ _ _ h => h) ?_
  refine fw_tl 23 (fun _ h => h.2) rfl rfl rfl (by kernel_rfl) (fun _ _ _ _ _ h => h) ?_
  refine fw_o1 2 (by kernel_rfl) ?_
  refine fw_oc rfl Tryd.func75 rfl rfl rfl ((flag_any m.clean 2 W7)) ?_
  rintro _ _ ⟨rfl, rfl⟩
  refine ⟨(.int .i64 (flg m.clean 2)), rfl, ?_⟩
  refine ⟨⟨b9, r10⟩, ?_⟩
  refine fw_o1 6 (by kernel_rfl) ?_
  refine fw_oc rfl Tryd.func75 rfl rfl rfl ((flag_any m.wI 4 W7)) ?_
  rintro _ _ ⟨rfl, rfl⟩
  refine ⟨(.int .i64 (flg m.wI 4)), rfl, ?_⟩
  refine ⟨⟨b9, r10⟩, ?_⟩
  refine fw_tx 7 10 (.int .i64 (bits .or .i64 (flg m.clean 2) (flg m.wI 4))) rfl rfl rfl rfl (fun a h W hW => by obtain ⟨b9, r10⟩ := hW; exact (run_binOp (h.ev rfl) (h.ev rfl) (by simp [go_sem]) (orI _ _ _))) (by kernel_rfl) (fun _ _ _ _ _ h => h) ?_
  refine fw_tx 12 15 (.int .i64 (bits .or .i64 (bits .or .i64 (flg m.clean 2) (flg m.wI 4)) (m.wQ * 8))) rfl rfl rfl rfl (fun a h W hW => by obtain ⟨b9, r10⟩ := hW; exact (run_binOp (h.ev rfl) (h.ev rfl) (by simp [go_sem]) (orI _ _ _))) (by kernel_rfl) (fun _ _ _ _ _ h => h) ?_
  refine fw_o1 16 (by kernel_rfl) ?_
  refine fw_oc rfl Tryd.func75 rfl rfl rfl ((flag_any m.wR 32 W7)) ?_
  rintro _ _ ⟨rfl, rfl⟩
  refine ⟨(.int .i64 (flg m.wR 32)), rfl, ?_⟩
  refine ⟨⟨b9, r10⟩, ?_⟩
  refine fw_tx 17 20 (.int .i64 (bits .or .i64 (bits .or .i64 (bits .or .i64 (flg m.clean 2) (flg m.wI 4)) (m.wQ * 8)) (flg m.wR 32))) rfl rfl rfl rfl (fun a h W hW => by obtain ⟨b9, r10⟩ := hW; exact (run_binOp (h.ev rfl) (h.ev rfl) (by simp [go_sem]) (orI _ _ _))) (by kernel_rfl) (fun _ _ _ _ _ h => h) ?_
  refine fw_o1 20 (by kernel_rfl) ?_
  refine fw_oc rfl Tryd.func75 rfl rfl rfl ((flag_any m.hp 64 W7)) ?_
  rintro _ _ ⟨rfl, rfl⟩
  refine ⟨(.int .i64 (flg m.hp 64)), rfl, ?_⟩
  refine ⟨⟨b9, r10⟩, ?_⟩
  refine fw_tx 21 24 (.int .i64 (bits .or .i64 (bits .or .i64 (bits .or .i64 (bits .or .i64 (flg m.clean 2) (flg m.wI 4)) (m.wQ * 8)) (flg m.wR 32)) (flg m.hp 64))) rfl rfl rfl rfl (fun a h W hW => by obtain ⟨b9, r10⟩ := hW; exact (run_binOp (h.ev rfl) (h.ev rfl) (by simp [go_sem]) (orI _ _ _))) (by kernel_rfl) (fun _ _ _ _ _ h => h) ?_
  refine fw_o1 24 (by kernel_rfl) ?_
  refine fw_oc rfl Tryd.func75 rfl rfl rfl ((flag_any m.hu 128 W7)) ?_
  rintro _ _ ⟨rfl, rfl⟩
  refine ⟨(.int .i64 (flg m.hu 128)), rfl, ?_⟩
  refine ⟨⟨b9, r10⟩, ?_⟩
  refine fw_tx 25 28 (.int .i64 (bits .or .i64 (bits .or .i64 (bits .or .i64 (bits .or .i64 (bits .or .i64 (flg m.clean 2) (flg m.wI 4)) (m.wQ * 8)) (flg m.wR 32)) (flg m.hp 64)) (flg m.hu 128))) rfl rfl rfl rfl (fun a h W hW => by obtain ⟨b9, r10⟩ := hW; exact (run_binOp (h.ev rfl) (h.ev rfl) (by simp [go_sem]) (orI _ _ _))) (by kernel_rfl) (fun _ _ _ _ _ h => h) ?_
  refine fw_tk 26 rfl rfl (by kernel_rfl) (fun _ _ _ _ _ h => h) ?_
  refine fw_ht (by kernel_rfl) ?_
  refine fw_rt ?_
  refine ⟨fun a h => ?_⟩
  exact ow_ret1 rfl h.df (h.g 2 rfl) ⟨by rfl, b9⟩
set_option maxRecDepth 100000 in
set_option maxHeartbeats 4000000 in
theorem flagsOfG (m : Mq) (ac aw af : Option Addr) (nc nw nf cc cw cf : Nat) (w : World) (hS : Small m) :
    Calls Tryd.prog 51 #[.agg (Mq.row m (.slice ac nc cc) (.slice aw nw cw) (.slice af nf cf)).toArray] w fun e w' => e = .returned (.int .i64 (flG m)) ∧ Below w.heap.size w w' := by
  have hb0 := Below.refl w.heap.size w
  have hS0 := hS.cl
  have hS1 := hS.wT
  have hS2 := hS.wP
  have hS3 := hS.us
  have hS4 := hS.pa
  have hS5 := hS.top
  have hS6 := hS.pay
  have hS7 := hS.wQ
  have hS8 := hS.q
  have hS9 := hS.k
  have hS10 := hS.cs
  have hS11 := hS.ws
  have hS12 := hS.fs
  refine fw_en 22 [(0, .agg (Mq.row m (.slice ac nc cc) (.slice aw nw cw) (.slice af nf cf)).toArray)] Tryd.func51 rfl Tryd.ntmps51 rfl ⟨rfl, trivial⟩ ?_
  refine fw_sq (fw_rg rfl (fw_bx rfl (cs := [.int .i64 m.k, .string m.cl, .bool m.clean, .int .i64 m.keep, .bool m.wI, .string m.wT, .string m.wP, .int .i64 m.wQ, .bool m.wR, .string m.us, .bool m.hu, .string m.pa, .bool m.hp, .bool m.pres, .int .i64 m.code, .slice ac nc cc, .bool m.dup, .int .i64 m.q, .bool m.re, .string m.top, .int .i64 m.id, .string m.pay, .slice aw nw cw, .slice af nf cf]) rfl ?_))
  intro q1 W2 g5 s3 r4
  have := Nat.le_trans hb0.size g5
  have b6 := hb0.trans (s3.mono hb0.size)
  refine fw_pu rfl (fw_dt (fw_sq (fw_sq (fw_rg rfl (fw_pu rfl (fw_ld r4 rfl rfl (fw_dt (fw_bk (fw_sq (fw_rg rfl ?_))))))))))
  iterate 2 refine fw_pu rfl ?_
  refine fw_dt ?_
  rcases Bool.eq_false_or_eq_true ((m.k == 3)) with hb_7 | hb_7
  · skip
    refine fw_cT rfl hb_7 (fw_sq ?_)
    refine fw_hr (fun X => Below w.heap.size w X ∧ RowAt X q1 (Mq.row m (.slice ac nc cc) (.slice aw nw cw) (.slice af nf cf))) (by kernel_rfl) 12 rfl ?_
    intro W8 s9
    have b10 := b6.trans (s9.mono b6.size)
    have r11 := r4.below s9
    refine ⟨⟨b10, r11⟩, ?_⟩
    refine fw_tk 0 rfl rfl (by kernel_rfl) (fun _ _ _ _ _ h => h) ?_
    refine fw_tl 1 (fun _ h => h.2) rfl rfl rfl (by kernel_rfl) (fun _ _ _ _ _ h => h) ?_
    refine fw_tk 3 rfl rfl (by kernel_rfl) (fun _ _ _ _ _ h => h) ?_
    refine fw_tl 4 (fun _ h => h.2) rfl rfl rfl (by kernel_rfl) (fun _ _ _ _ _ h => h) ?_
    refine fw_tx 5 12 (.int .i64 (m.q * 2)) rfl rfl rfl rfl (fun a h W hW => by obtain ⟨b10, r11⟩ := hW; exact (run_binOp (h.ev rfl) (h.ev rfl) (by simp [go_sem]) (shl1 _ (by omega) (by omega) _))) (by kernel_rfl) (fun _ _ _ _ _ h => h) ?_
    refine fw_tk 7 rfl rfl (by kernel_rfl) (fun _ _ _ _ _ h => h) ?_
    refine fw_tl 8 (fun _ h => h.2) rfl rfl rfl (by kernel_rfl) (fun _ _ _ _ _ h => h) ?_
    refine fw_o1 2 (by kernel_rfl) ?_
    refine fw_oc rfl Tryd.func75 rfl rfl rfl ((flag_any m.dup 8 W8)) ?_
    rintro _ _ ⟨rfl, rfl⟩
    refine ⟨(.int .i64 (flg m.dup 8)), rfl, ?_⟩
    refine ⟨⟨b10, r11⟩, ?_⟩
    refine fw_tx 6 13 (.int .i64 (bits .or .i64 (flg m.dup 8) (m.q * 2))) rfl rfl rfl rfl (fun a h W hW => by obtain ⟨b10, r11⟩ := hW; exact (run_binOp (h.ev rfl) (h.ev rfl) (by simp [go_sem]) (orI _ _ _))) (by kernel_rfl) (fun _ _ _ _ _ h => h) ?_
    refine fw_o1 9 (by kernel_rfl) ?_
    refine fw_oc rfl Tryd.func75 rfl rfl rfl ((flag_any m.re 1 W8)) ?_
    rintro _ _ ⟨rfl, rfl⟩
    refine ⟨(.int .i64 (flg m.re 1)), rfl, ?_⟩
    refine ⟨⟨b10, r11⟩, ?_⟩
    refine fw_tx 10 17 (.int .i64 (bits .or .i64 (bits .or .i64 (flg m.dup 8) (m.q * 2)) (flg m.re 1))) rfl rfl rfl rfl (fun a h W hW => by obtain ⟨b10, r11⟩ := hW; exact (run_binOp (h.ev rfl) (h.ev rfl) (by simp [go_sem]) (orI _ _ _))) (by kernel_rfl) (fun _ _ _ _ _ h => h) ?_
    refine fw_tk 11 rfl rfl (by kernel_rfl) (fun _ _ _ _ _ h => h) ?_
    refine fw_ht (by kernel_rfl) ?_
    refine fw_rt (fw_br (fw_tr ?_))
    refine ⟨fun a h => ?_⟩
    exact ow_ret1 rfl h.df (h.g 2 rfl) ⟨by unfold flG; simp [hb_7], b10⟩
  refine fw_cF rfl hb_7 (fw_sq (fw_sq (fw_rg rfl ?_)))
  iterate 2 refine fw_pu rfl ?_
  refine fw_dt ?_
  rcases Bool.eq_false_or_eq_true ((m.k == 6)) with hb_12 | hb_12
  · skip
    refine fw_cT rfl hb_12 (fw_sk (fw_th (fw_cT rfl hb_12 (fw_sq (fw_rg rfl (fw_pu rfl (fw_dt (fw_rt (fw_br (fw_tr ?_))))))))))
    refine ⟨fun a h => ?_⟩
    exact ow_ret1 rfl h.df (h.g 2 rfl) ⟨by unfold flG; simp [hb_7, hb_12], b6⟩
  refine fw_cF rfl hb_12 (fw_sq (fw_rg rfl ?_))
  iterate 2 refine fw_pu rfl ?_
  refine fw_dt ?_
  rcases Bool.eq_false_or_eq_true ((m.k == 8)) with hb_13 | hb_13
  · skip
    refine fw_cT rfl hb_13 (fw_sk (fw_th (fw_cT rfl hb_13 (fw_sq (fw_rg rfl (fw_pu rfl (fw_dt (fw_rt (fw_br (fw_tr ?_))))))))))
    refine ⟨fun a h => ?_⟩
    exact ow_ret1 rfl h.df (h.g 2 rfl) ⟨by unfold flG; simp [hb_7, hb_12, hb_13], b6⟩
  refine fw_cF rfl hb_13 (fw_rg rfl ?_)
  iterate 2 refine fw_pu rfl ?_
  refine fw_dt ?_
  rcases Bool.eq_false_or_eq_true ((m.k == 10)) with hb_14 | hb_14
  · skip
    refine fw_cT rfl hb_14 (fw_sq (fw_rg rfl (fw_pu rfl (fw_dt (fw_rt (fw_br (fw_tr ?_)))))))
    refine ⟨fun a h => ?_⟩
    exact ow_ret1 rfl h.df (h.g 2 rfl) ⟨by unfold flG; simp [hb_7, hb_12, hb_13, hb_14], b6⟩
  refine fw_cF rfl hb_14 (fw_sk (fw_bn (fw_th (fw_sq (fw_rg rfl (fw_pu rfl (fw_dt (fw_rt ?_))))))))
  refine ⟨fun a h => ?_⟩
  exact ow_ret1 rfl h.df (h.g 2 rfl) ⟨by unfold flG; simp [hb_7, hb_12, hb_13, hb_14], b6⟩
theorem mqtt_enc : encS { data := #[77, 81, 84, 84] } = mqtt := by decide +kernel
theorem mqtt_len : mqtt.length = 6 := rfl
set_option maxRecDepth 100000 in
set_option maxHeartbeats 4000000 in
theorem connectBodyG (m : Mq) (ac aw af : Option Addr) (nc nw nf cc cw cf : Nat) (w : World) (hS : Small m) :
    Calls Tryd.prog 74 #[.agg (Mq.row m (.slice ac nc cc) (.slice aw nw cw) (.slice af nf cf)).toArray] w fun e w' => ∃ l a c, e = .returned (.slice a l.length c) ∧ l = cbG m ∧ l.length ≤ 60000 ∧ OB w' w.heap.size a c l ∧ Below w.heap.size w w' := by
  have hb0 := Below.refl w.heap.size w
  have hS0 := hS.cl
  have hS1 := hS.wT
  have hS2 := hS.wP
  have hS3 := hS.us
  have hS4 := hS.pa
  have hS5 := hS.top
  have hS6 := hS.pay
  have hS7 := hS.wQ
  have hS8 := hS.q
  have hS9 := hS.k
  have hS10 := hS.cs
  have hS11 := hS.ws
  have hS12 := hS.fs
  refine fw_en 44 [(0, .agg (Mq.row m (.slice ac nc cc) (.slice aw nw cw) (.slice af nf cf)).toArray)] Tryd.func74 rfl Tryd.ntmps74 rfl ⟨rfl, trivial⟩ ?_
  refine fw_sq (fw_rg rfl (fw_bx rfl (cs := [.int .i64 m.k, .string m.cl, .bool m.clean, .int .i64 m.keep, .bool m.wI, .string m.wT, .string m.wP, .int .i64 m.wQ, .bool m.wR, .string m.us, .bool m.hu, .string m.pa, .bool m.hp, .bool m.pres, .int .i64 m.code, .slice ac nc cc, .bool m.dup, .int .i64 m.q, .bool m.re, .string m.top, .int .i64 m.id, .string m.pay, .slice aw nw cw, .slice af nf cf]) rfl ?_))
  intro q1 W2 g5 s3 r4
  have := Nat.le_trans hb0.size g5
  have b6 := hb0.trans (s3.mono hb0.size)
  refine fw_pu rfl (fw_dt (fw_sq (fw_rg rfl ?_)))
  obtain ⟨B, hB⟩ : ∃ x, x = W2.heap.size := ⟨_, rfl⟩
  have : q1 < B := by rw [hB]; exact r4.2.2
  have hwB : w.heap.size ≤ B := by rw [hB]; exact b6.size
  have hBs : B ≤ W2.heap.size := Nat.le_of_eq hB
  have ho7 := ob_nil W2 B
  refine fw_ca Tryd.func76 rfl rfl rfl (strPut (l := ([] : List UInt8)) (ad := none) (c := 0) ({ data := #[77, 81, 84, 84] } : ByteArray) ho7 (by decide) (by rw [nil_len]; omega) hBs) ?_
  rintro _ V9 ⟨l8, a8, c8, rfl, hl8, hg8, ho8⟩
  refine ⟨_, rfl, ?_⟩
  have r10 := row_grew r4 hg8 (ob_off ho7 (by omega))
  have b11 := ob_low b6 ho7 hg8 hwB (Nat.le_trans hwB hBs)
  have hBs := Nat.le_trans hBs hg8.1.size
  rw [mqtt_enc] at hl8
  have hn8 : l8.length ≤ 1003 := by rw [hl8, List.length_append]; (try rw [nil_len]); first | (rw [bigv_length]; omega) | (rw [encS_len]; omega) | (rw [one_len]; omega) | (rw [two_len]; omega) | (rw [str_len]; omega) | (rw [mqtt_len]; omega)
  refine fw_pu rfl (fw_dt (fw_sq (fw_rg rfl (fw_pu rfl (fw_ld r10 rfl rfl (fw_ca Tryd.func94 rfl rfl rfl ((connectFlagsG m ac aw af _ _ _ cc cw cf V9 hS)) ?_))))))
  rintro _ V13 ⟨rfl, hb12⟩
  refine ⟨(.int .i64 (cfG m)), rfl, ?_⟩
  have b14 := b11.trans (hb12.mono b11.size)
  have r15 := r10.below hb12
  have f16 := (below_own ho8 hb12)
  have hBs := Nat.le_trans hBs hb12.size
  refine fw_ex 8 (B8 (b8I (cfG m))) rfl rfl rfl (fun a h => (run_convOp (h.ev rfl) (cvI8 _ _))) ?_
  refine fw_al (t := 5) (u := fun q => .slice (some ⟨q, 0, none⟩) 2 2) 9 [B8 4, B8 (b8I (cfG m))] rfl rfl rfl (fun a h => (bs8_2 _ ((h.ev rfl).trans b8c4) (h.ev rfl))) ?_
  intro q17 W18 g21 s19 r20
  have := Nat.le_trans b14.size g21
  have := r15.lt g21
  have hapq17 := ob_new f16 g21
  have b22 := b14.trans (s19.mono b14.size)
  have r23 := r15.below s19
  have f24 := (below_own f16 s19)
  have hBs := Nat.le_trans hBs s19.size
  refine fw_to 10 rfl rfl rfl (fun a h => opTo_byt (l := l8) (ad := a8) (c := c8) _ _ rfl (h.ev rfl) f24 (h.ev rfl) (slBB _ _ 4 (b8I (cfG m)) r20) (by omega) (by simp) hBs) ?_
  rintro _ V26 ⟨l25, a25, c25, rfl, hl25, hg25, ho25⟩
  have r27 := row_grew r23 hg25 (ob_off f24 (by omega))
  have r28 := row_grew r20 hg25 hapq17
  replace hapq17 := grew_off hg25 hapq17 r20.2.2
  have b29 := ob_low b22 f24 hg25 hwB (Nat.le_trans hwB hBs)
  have hBs := Nat.le_trans hBs hg25.1.size
  have hn25 : l25.length ≤ 2006 := by rw [hl25, List.length_append]; (try rw [nil_len]); first | (rw [bigv_length]; omega) | (rw [encS_len]; omega) | (rw [one_len]; omega) | (rw [two_len]; omega) | (rw [str_len]; omega) | (rw [mqtt_len]; omega)
  refine fw_pu rfl (fw_dt (fw_sq (fw_rg rfl ?_)))
  iterate 2 refine fw_pu rfl ?_
  refine fw_ld r27 rfl rfl ?_
  refine fw_ca Tryd.func77 rfl rfl rfl (numPut (l := l25) (ad := a25) (c := c25) m.keep 2 ho25 (by decide) (by omega) hBs) ?_
  rintro _ V31 ⟨l30, a30, c30, rfl, hl30, hg30, ho30⟩
  refine ⟨_, rfl, ?_⟩
  have r32 := row_grew r27 hg30 (ob_off ho25 (by omega))
  have r33 := row_grew r28 hg30 hapq17
  replace hapq17 := grew_off hg30 hapq17 r28.2.2
  have b34 := ob_low b29 ho25 hg30 hwB (Nat.le_trans hwB hBs)
  have hBs := Nat.le_trans hBs hg30.1.size
  have hn30 : l30.length ≤ 3009 := by rw [hl30, List.length_append]; (try rw [nil_len]); first | (rw [bigv_length]; omega) | (rw [encS_len]; omega) | (rw [one_len]; omega) | (rw [two_len]; omega) | (rw [str_len]; omega) | (rw [mqtt_len]; omega)
  refine fw_pu rfl (fw_dt (fw_sq (fw_rg rfl ?_)))
  iterate 2 refine fw_pu rfl ?_
  refine fw_ld r32 rfl rfl ?_
  refine fw_ca Tryd.func76 rfl rfl rfl (strPut (l := l30) (ad := a30) (c := c30) m.cl ho30 (by omega) (by omega) hBs) ?_
  rintro _ V36 ⟨l35, a35, c35, rfl, hl35, hg35, ho35⟩
  refine ⟨_, rfl, ?_⟩
  have r37 := row_grew r32 hg35 (ob_off ho30 (by omega))
  have r38 := row_grew r33 hg35 hapq17
  replace hapq17 := grew_off hg35 hapq17 r33.2.2
  have b39 := ob_low b34 ho30 hg35 hwB (Nat.le_trans hwB hBs)
  have hBs := Nat.le_trans hBs hg35.1.size
  have hn35 : l35.length ≤ 4012 := by rw [hl35, List.length_append]; (try rw [nil_len]); first | (rw [bigv_length]; omega) | (rw [encS_len]; omega) | (rw [one_len]; omega) | (rw [two_len]; omega) | (rw [str_len]; omega) | (rw [mqtt_len]; omega)
  refine fw_pu rfl (fw_dt (fw_sq (fw_sq (fw_rg rfl ?_))))
  iterate 2 refine fw_pu rfl ?_
  refine fw_ld r37 rfl rfl (fw_dt ?_)
  rcases Bool.eq_false_or_eq_true (m.wI) with hb_40 | hb_40
  · skip
    refine fw_cT rfl hb_40 ?_
    refine fw_hr (fun X => Below w.heap.size w X ∧ RowAt X q1 (Mq.row m (.slice ac nc cc) (.slice aw nw cw) (.slice af nf cf)) ∧ RowAt X q17 [B8 4, B8 (b8I (cfG m))]) (by kernel_rfl) 10 rfl ?_
    intro W41 s42
    have b43 := b39.trans (s42.mono b39.size)
    have r44 := r37.below s42
    have r45 := r38.below s42
    have f46 := (below_own ho35 s42)
    have hBs := Nat.le_trans hBs s42.size
    refine ⟨⟨b43, r44, r45⟩, ?_⟩
    refine fw_tk 0 rfl rfl (by kernel_rfl) (fun _ _ _ _ _ h => h) ?_
    refine fw_tk 1 rfl rfl (by kernel_rfl) (fun _ _ _ _ _ h => h) ?_
    refine fw_tk 2 rfl rfl (by kernel_rfl) (fun _ _ _ _ _ h => h) ?_
    refine fw_tl 3 (fun _ h => h.2.1) rfl rfl rfl (by kernel_rfl) (fun _ _ _ _ _ h => h) ?_
    refine fw_tk 5 rfl rfl (by kernel_rfl) (fun _ _ _ _ _ h => h) ?_
    refine fw_tk 6 rfl rfl (by kernel_rfl) (fun _ _ _ _ _ h => h) ?_
    refine fw_tl 7 (fun _ h => h.2.1) rfl rfl rfl (by kernel_rfl) (fun _ _ _ _ _ h => h) ?_
    refine fw_o1 4 (by kernel_rfl) ?_
    refine fw_oc rfl Tryd.func76 rfl rfl rfl (strPut (l := l35) (ad := a35) (c := c35) m.wT f46 (by omega) (by omega) hBs) ?_
    rintro _ V48 ⟨l47, a47, c47, rfl, hl47, hg47, ho47⟩
    refine ⟨_, rfl, ?_⟩
    have r49 := row_grew r44 hg47 (ob_off f46 (by omega))
    have r50 := row_grew r45 hg47 hapq17
    replace hapq17 := grew_off hg47 hapq17 r45.2.2
    have b51 := ob_low b43 f46 hg47 hwB (Nat.le_trans hwB hBs)
    have hBs := Nat.le_trans hBs hg47.1.size
    have hn47 : l47.length ≤ 5015 := by rw [hl47, List.length_append]; (try rw [nil_len]); first | (rw [bigv_length]; omega) | (rw [encS_len]; omega) | (rw [one_len]; omega) | (rw [two_len]; omega) | (rw [str_len]; omega) | (rw [mqtt_len]; omega)
    refine ⟨⟨b51, r49, r50⟩, ?_⟩
    refine fw_o1 8 (by kernel_rfl) ?_
    refine fw_oc rfl Tryd.func76 rfl rfl rfl (strPut (l := l47) (ad := a47) (c := c47) m.wP ho47 (by omega) (by omega) hBs) ?_
    rintro _ V53 ⟨l52, a52, c52, rfl, hl52, hg52, ho52⟩
    refine ⟨_, rfl, ?_⟩
    have r54 := row_grew r49 hg52 (ob_off ho47 (by omega))
    have r55 := row_grew r50 hg52 hapq17
    replace hapq17 := grew_off hg52 hapq17 r50.2.2
    have b56 := ob_low b51 ho47 hg52 hwB (Nat.le_trans hwB hBs)
    have hBs := Nat.le_trans hBs hg52.1.size
    have hn52 : l52.length ≤ 6018 := by rw [hl52, List.length_append]; (try rw [nil_len]); first | (rw [bigv_length]; omega) | (rw [encS_len]; omega) | (rw [one_len]; omega) | (rw [two_len]; omega) | (rw [str_len]; omega) | (rw [mqtt_len]; omega)
    refine ⟨⟨b56, r54, r55⟩, ?_⟩
    refine fw_tk 9 rfl rfl (by kernel_rfl) (fun _ _ _ _ _ h => h) ?_
    refine fw_ht (by kernel_rfl) ?_
    refine fw_sq (fw_sq (fw_rg rfl (fw_pu rfl (fw_ld r54 rfl rfl (fw_dt ?_)))))
    rcases Bool.eq_false_or_eq_true (m.hu) with hb_57 | hb_57
    · skip
      refine fw_cT rfl hb_57 (fw_rg rfl ?_)
      iterate 2 refine fw_pu rfl ?_
      refine fw_ld r54 rfl rfl ?_
      refine fw_ca Tryd.func76 rfl rfl rfl (strPut (l := l52) (ad := a52) (c := c52) m.us ho52 (by omega) (by omega) hBs) ?_
      rintro _ V59 ⟨l58, a58, c58, rfl, hl58, hg58, ho58⟩
      refine ⟨_, rfl, ?_⟩
      have r60 := row_grew r54 hg58 (ob_off ho52 (by omega))
      have r61 := row_grew r55 hg58 hapq17
      replace hapq17 := grew_off hg58 hapq17 r55.2.2
      have b62 := ob_low b56 ho52 hg58 hwB (Nat.le_trans hwB hBs)
      have hBs := Nat.le_trans hBs hg58.1.size
      have hn58 : l58.length ≤ 7021 := by rw [hl58, List.length_append]; (try rw [nil_len]); first | (rw [bigv_length]; omega) | (rw [encS_len]; omega) | (rw [one_len]; omega) | (rw [two_len]; omega) | (rw [str_len]; omega) | (rw [mqtt_len]; omega)
      refine fw_pu rfl (fw_dt (fw_sq (fw_sq (fw_rg rfl (fw_pu rfl (fw_ld r60 rfl rfl (fw_dt ?_)))))))
      rcases Bool.eq_false_or_eq_true (m.hp) with hb_63 | hb_63
      · skip
        refine fw_cT rfl hb_63 (fw_rg rfl ?_)
        iterate 2 refine fw_pu rfl ?_
        refine fw_ld r60 rfl rfl ?_
        refine fw_ca Tryd.func76 rfl rfl rfl (strPut (l := l58) (ad := a58) (c := c58) m.pa ho58 (by omega) (by omega) hBs) ?_
        rintro _ V65 ⟨l64, a64, c64, rfl, hl64, hg64, ho64⟩
        refine ⟨_, rfl, ?_⟩
        have r66 := row_grew r60 hg64 (ob_off ho58 (by omega))
        have r67 := row_grew r61 hg64 hapq17
        replace hapq17 := grew_off hg64 hapq17 r61.2.2
        have b68 := ob_low b62 ho58 hg64 hwB (Nat.le_trans hwB hBs)
        have hBs := Nat.le_trans hBs hg64.1.size
        have hn64 : l64.length ≤ 8024 := by rw [hl64, List.length_append]; (try rw [nil_len]); first | (rw [bigv_length]; omega) | (rw [encS_len]; omega) | (rw [one_len]; omega) | (rw [two_len]; omega) | (rw [str_len]; omega) | (rw [mqtt_len]; omega)
        refine fw_pu rfl (fw_dt (fw_sq (fw_rg rfl ?_)))
        iterate 2 refine fw_pu rfl ?_
        refine fw_dt (fw_rt ?_)
        refine ⟨fun a h => ?_⟩
        exact ow_ret1 rfl h.df (h.g 2 rfl) ⟨_, _, _, rfl, by unfold cbG; simp [hb_40, hb_57, hb_63, hl8, hl25, hl30, hl35, hl47, hl52, hl58, hl64], by omega, own_mono ho64 hwB, b68⟩
      refine fw_cF rfl hb_63 (fw_sk (fw_th (fw_sq (fw_rg rfl ?_))))
      iterate 2 refine fw_pu rfl ?_
      refine fw_dt (fw_rt ?_)
      refine ⟨fun a h => ?_⟩
      exact ow_ret1 rfl h.df (h.g 2 rfl) ⟨_, _, _, rfl, by unfold cbG; simp [hb_40, hb_57, hb_63, hl8, hl25, hl30, hl35, hl47, hl52, hl58], by omega, own_mono ho58 hwB, b62⟩
    refine fw_cF rfl hb_57 (fw_sk (fw_th (fw_sq (fw_sq (fw_rg rfl (fw_pu rfl (fw_ld r54 rfl rfl (fw_dt ?_))))))))
    rcases Bool.eq_false_or_eq_true (m.hp) with hb_69 | hb_69
    · skip
      refine fw_cT rfl hb_69 (fw_rg rfl ?_)
      iterate 2 refine fw_pu rfl ?_
      refine fw_ld r54 rfl rfl ?_
      refine fw_ca Tryd.func76 rfl rfl rfl (strPut (l := l52) (ad := a52) (c := c52) m.pa ho52 (by omega) (by omega) hBs) ?_
      rintro _ V71 ⟨l70, a70, c70, rfl, hl70, hg70, ho70⟩
      refine ⟨_, rfl, ?_⟩
      have r72 := row_grew r54 hg70 (ob_off ho52 (by omega))
      have r73 := row_grew r55 hg70 hapq17
      replace hapq17 := grew_off hg70 hapq17 r55.2.2
      have b74 := ob_low b56 ho52 hg70 hwB (Nat.le_trans hwB hBs)
      have hBs := Nat.le_trans hBs hg70.1.size
      have hn70 : l70.length ≤ 7021 := by rw [hl70, List.length_append]; (try rw [nil_len]); first | (rw [bigv_length]; omega) | (rw [encS_len]; omega) | (rw [one_len]; omega) | (rw [two_len]; omega) | (rw [str_len]; omega) | (rw [mqtt_len]; omega)
      refine fw_pu rfl (fw_dt (fw_sq (fw_rg rfl ?_)))
      iterate 2 refine fw_pu rfl ?_
      refine fw_dt (fw_rt ?_)
      refine ⟨fun a h => ?_⟩
      exact ow_ret1 rfl h.df (h.g 2 rfl) ⟨_, _, _, rfl, by unfold cbG; simp [hb_40, hb_57, hb_69, hl8, hl25, hl30, hl35, hl47, hl52, hl70], by omega, own_mono ho70 hwB, b74⟩
    refine fw_cF rfl hb_69 (fw_sk (fw_th (fw_sq (fw_rg rfl ?_))))
    iterate 2 refine fw_pu rfl ?_
    refine fw_dt (fw_rt ?_)
    refine ⟨fun a h => ?_⟩
    exact ow_ret1 rfl h.df (h.g 2 rfl) ⟨_, _, _, rfl, by unfold cbG; simp [hb_40, hb_57, hb_69, hl8, hl25, hl30, hl35, hl47, hl52], by omega, own_mono ho52 hwB, b56⟩
  refine fw_cF rfl hb_40 (fw_sk (fw_th (fw_sq (fw_sq (fw_rg rfl (fw_pu rfl (fw_ld r37 rfl rfl (fw_dt ?_))))))))
  rcases Bool.eq_false_or_eq_true (m.hu) with hb_75 | hb_75
  · skip
    refine fw_cT rfl hb_75 (fw_rg rfl ?_)
    iterate 2 refine fw_pu rfl ?_
    refine fw_ld r37 rfl rfl ?_
    refine fw_ca Tryd.func76 rfl rfl rfl (strPut (l := l35) (ad := a35) (c := c35) m.us ho35 (by omega) (by omega) hBs) ?_
    rintro _ V77 ⟨l76, a76, c76, rfl, hl76, hg76, ho76⟩
    refine ⟨_, rfl, ?_⟩
    have r78 := row_grew r37 hg76 (ob_off ho35 (by omega))
    have r79 := row_grew r38 hg76 hapq17
    replace hapq17 := grew_off hg76 hapq17 r38.2.2
    have b80 := ob_low b39 ho35 hg76 hwB (Nat.le_trans hwB hBs)
    have hBs := Nat.le_trans hBs hg76.1.size
    have hn76 : l76.length ≤ 5015 := by rw [hl76, List.length_append]; (try rw [nil_len]); first | (rw [bigv_length]; omega) | (rw [encS_len]; omega) | (rw [one_len]; omega) | (rw [two_len]; omega) | (rw [str_len]; omega) | (rw [mqtt_len]; omega)
    refine fw_pu rfl (fw_dt (fw_sq (fw_sq (fw_rg rfl (fw_pu rfl (fw_ld r78 rfl rfl (fw_dt ?_)))))))
    rcases Bool.eq_false_or_eq_true (m.hp) with hb_81 | hb_81
    · skip
      refine fw_cT rfl hb_81 (fw_rg rfl ?_)
      iterate 2 refine fw_pu rfl ?_
      refine fw_ld r78 rfl rfl ?_
      refine fw_ca Tryd.func76 rfl rfl rfl (strPut (l := l76) (ad := a76) (c := c76) m.pa ho76 (by omega) (by omega) hBs) ?_
      rintro _ V83 ⟨l82, a82, c82, rfl, hl82, hg82, ho82⟩
      refine ⟨_, rfl, ?_⟩
      have r84 := row_grew r78 hg82 (ob_off ho76 (by omega))
      have r85 := row_grew r79 hg82 hapq17
      replace hapq17 := grew_off hg82 hapq17 r79.2.2
      have b86 := ob_low b80 ho76 hg82 hwB (Nat.le_trans hwB hBs)
      have hBs := Nat.le_trans hBs hg82.1.size
      have hn82 : l82.length ≤ 6018 := by rw [hl82, List.length_append]; (try rw [nil_len]); first | (rw [bigv_length]; omega) | (rw [encS_len]; omega) | (rw [one_len]; omega) | (rw [two_len]; omega) | (rw [str_len]; omega) | (rw [mqtt_len]; omega)
      refine fw_pu rfl (fw_dt (fw_sq (fw_rg rfl ?_)))
      iterate 2 refine fw_pu rfl ?_
      refine fw_dt (fw_rt ?_)
      refine ⟨fun a h => ?_⟩
      exact ow_ret1 rfl h.df (h.g 2 rfl) ⟨_, _, _, rfl, by unfold cbG; simp [hb_40, hb_75, hb_81, hl8, hl25, hl30, hl35, hl76, hl82], by omega, own_mono ho82 hwB, b86⟩
    refine fw_cF rfl hb_81 (fw_sk (fw_th (fw_sq (fw_rg rfl ?_))))
    iterate 2 refine fw_pu rfl ?_
    refine fw_dt (fw_rt ?_)
    refine ⟨fun a h => ?_⟩
    exact ow_ret1 rfl h.df (h.g 2 rfl) ⟨_, _, _, rfl, by unfold cbG; simp [hb_40, hb_75, hb_81, hl8, hl25, hl30, hl35, hl76], by omega, own_mono ho76 hwB, b80⟩
  refine fw_cF rfl hb_75 (fw_sk (fw_th (fw_sq (fw_sq (fw_rg rfl (fw_pu rfl (fw_ld r37 rfl rfl (fw_dt ?_))))))))
  rcases Bool.eq_false_or_eq_true (m.hp) with hb_87 | hb_87
  · skip
    refine fw_cT rfl hb_87 (fw_rg rfl ?_)
    iterate 2 refine fw_pu rfl ?_
    refine fw_ld r37 rfl rfl ?_
    refine fw_ca Tryd.func76 rfl rfl rfl (strPut (l := l35) (ad := a35) (c := c35) m.pa ho35 (by omega) (by omega) hBs) ?_
    rintro _ V89 ⟨l88, a88, c88, rfl, hl88, hg88, ho88⟩
    refine ⟨_, rfl, ?_⟩
    have r90 := row_grew r37 hg88 (ob_off ho35 (by omega))
    have r91 := row_grew r38 hg88 hapq17
    replace hapq17 := grew_off hg88 hapq17 r38.2.2
    have b92 := ob_low b39 ho35 hg88 hwB (Nat.le_trans hwB hBs)
    have hBs := Nat.le_trans hBs hg88.1.size
    have hn88 : l88.length ≤ 5015 := by rw [hl88, List.length_append]; (try rw [nil_len]); first | (rw [bigv_length]; omega) | (rw [encS_len]; omega) | (rw [one_len]; omega) | (rw [two_len]; omega) | (rw [str_len]; omega) | (rw [mqtt_len]; omega)
    refine fw_pu rfl (fw_dt (fw_sq (fw_rg rfl ?_)))
    iterate 2 refine fw_pu rfl ?_
    refine fw_dt (fw_rt ?_)
    refine ⟨fun a h => ?_⟩
    exact ow_ret1 rfl h.df (h.g 2 rfl) ⟨_, _, _, rfl, by unfold cbG; simp [hb_40, hb_75, hb_87, hl8, hl25, hl30, hl35, hl88], by omega, own_mono ho88 hwB, b92⟩
  refine fw_cF rfl hb_87 (fw_sk (fw_th (fw_sq (fw_rg rfl ?_))))
  iterate 2 refine fw_pu rfl ?_
  refine fw_dt (fw_rt ?_)
  refine ⟨fun a h => ?_⟩
  exact ow_ret1 rfl h.df (h.g 2 rfl) ⟨_, _, _, rfl, by unfold cbG; simp [hb_40, hb_75, hb_87, hl8, hl25, hl30, hl35], by omega, own_mono ho35 hwB, b39⟩
theorem take_fm {α : Type} {f : α → List UInt8} {L : List α} {i : Nat} {x : α} (h : L[i]? = some x) : (L.take (i + 1)).flatMap f = (L.take i).flatMap f ++ f x := by
  rw [List.take_add_one, h, List.flatMap_append]; simp
theorem take_mp {f : Int → UInt8} {L : List Int} {i : Nat} {x : Int} (h : L[i]? = some x) : (L.take (i + 1)).map f = (L.take i).map f ++ [f x] := by
  rw [List.take_add_one, h, List.map_append]; rfl
set_option maxRecDepth 100000 in
set_option maxHeartbeats 4000000 in
theorem bodyOfG (m : Mq) (ac aw af : Option Addr) (nc nw nf cc cw cf : Nat) (w : World) (hL : m.Lists w (.slice ac nc cc) (.slice aw nw cw) (.slice af nf cf)) (hS : Small m) :
    Calls Tryd.prog 50 #[.agg (Mq.row m (.slice ac nc cc) (.slice aw nw cw) (.slice af nf cf)).toArray] w fun e w' => ∃ l a c, e = .returned (.slice a l.length c) ∧ l = bdG m ∧ l.length ≤ 60000 ∧ OB w' w.heap.size a c l ∧ Below w.heap.size w w' := by
  obtain rfl : nc = m.cs.length := by have := slR_len hL.c; simpa using this
  obtain rfl : nw = m.ws.length := by have := slR_len hL.w; simpa using this
  obtain rfl : nf = m.fs.length := by have := slR_len hL.f; simpa using this
  have hb0 := Below.refl w.heap.size w
  have hS0 := hS.cl
  have hS1 := hS.wT
  have hS2 := hS.wP
  have hS3 := hS.us
  have hS4 := hS.pa
  have hS5 := hS.top
  have hS6 := hS.pay
  have hS7 := hS.wQ
  have hS8 := hS.q
  have hS9 := hS.k
  have hS10 := hS.cs
  have hS11 := hS.ws
  have hS12 := hS.fs
  refine fw_en 95 [(0, .agg (Mq.row m (.slice ac m.cs.length cc) (.slice aw m.ws.length cw) (.slice af m.fs.length cf)).toArray)] Tryd.func50 rfl Tryd.ntmps50 rfl ⟨rfl, trivial⟩ ?_
  refine fw_sq (fw_rg rfl (fw_bx rfl (cs := [.int .i64 m.k, .string m.cl, .bool m.clean, .int .i64 m.keep, .bool m.wI, .string m.wT, .string m.wP, .int .i64 m.wQ, .bool m.wR, .string m.us, .bool m.hu, .string m.pa, .bool m.hp, .bool m.pres, .int .i64 m.code, .slice ac m.cs.length cc, .bool m.dup, .int .i64 m.q, .bool m.re, .string m.top, .int .i64 m.id, .string m.pay, .slice aw m.ws.length cw, .slice af m.fs.length cf]) rfl ?_))
  intro q1 W2 g5 s3 r4
  have := Nat.le_trans hb0.size g5
  have b6 := hb0.trans (s3.mono hb0.size)
  refine fw_pu rfl (fw_dt (fw_sq (fw_rg rfl (fw_pu rfl (fw_dt (fw_sq (fw_sq (fw_rg rfl (fw_pu rfl (fw_ld r4 rfl rfl (fw_dt (fw_bk (fw_sq ?_)))))))))))))
  refine fw_rg rfl ?_
  iterate 2 refine fw_pu rfl ?_
  refine fw_dt ?_
  rcases Bool.eq_false_or_eq_true ((m.k == 1)) with hb_7 | hb_7
  · skip
    refine fw_cT rfl hb_7 (fw_sq (fw_rg rfl (fw_ld r4 rfl rfl (fw_ca Tryd.func74 rfl rfl rfl (connectBodyG m ac aw af _ _ _ cc cw cf W2 hS) ?_))))
    rintro _ VC ⟨lC, aC, cC, rfl, hlC, hnC, hoC, hbC⟩
    refine ⟨_, rfl, ?_⟩
    have b8 := b6.trans (hbC.mono b6.size)
    have r9 := r4.below hbC
    refine fw_pu rfl (fw_dt (fw_rt (fw_br (fw_tr ?_))))
    refine ⟨fun a h => ?_⟩
    exact ow_ret1 rfl h.df (h.g 2 rfl) ⟨_, _, _, rfl, by unfold bdG; simp [hb_7, hlC], hnC, own_mono hoC b6.size, b8⟩
  refine fw_cF rfl hb_7 (fw_sq (fw_rg rfl ?_))
  iterate 2 refine fw_pu rfl ?_
  refine fw_dt ?_
  rcases Bool.eq_false_or_eq_true ((m.k == 2)) with hb_10 | hb_10
  · skip
    refine fw_cT rfl hb_10 (fw_sq ?_)
    refine fw_hr (fun X => Below w.heap.size w X ∧ RowAt X q1 (Mq.row m (.slice ac m.cs.length cc) (.slice aw m.ws.length cw) (.slice af m.fs.length cf))) (by kernel_rfl) 11 rfl ?_
    intro W11 s12
    have b13 := b6.trans (s12.mono b6.size)
    have r14 := r4.below s12
    refine ⟨⟨b13, r14⟩, ?_⟩
    refine fw_tk 0 rfl rfl (by kernel_rfl) (fun _ _ _ _ _ h => h) ?_
    refine fw_tk 1 rfl rfl (by kernel_rfl) (fun _ _ _ _ _ h => h) ?_
    refine fw_tl 2 (fun _ h => h.2) rfl rfl rfl (by kernel_rfl) (fun _ _ _ _ _ h => h) ?_
    refine fw_tk 5 rfl rfl (by kernel_rfl) (fun _ _ _ _ _ h => h) ?_
    refine fw_tl 6 (fun _ h => h.2) rfl rfl rfl (by kernel_rfl) (fun _ _ _ _ _ h => h) ?_
    refine fw_tx 7 25 (B8 (b8I m.code)) rfl rfl rfl rfl (fun a h W hW => by obtain ⟨b13, r14⟩ := hW; exact (run_convOp (h.ev rfl) (cvI8 _ _))) (by kernel_rfl) (fun _ _ _ _ _ h => h) ?_
    refine fw_o1 3 (by kernel_rfl) ?_
    refine fw_oc rfl Tryd.func75 rfl rfl rfl ((flag_any m.pres 1 W11)) ?_
    rintro _ _ ⟨rfl, rfl⟩
    refine ⟨(.int .i64 (flg m.pres 1)), rfl, ?_⟩
    refine ⟨⟨b13, r14⟩, ?_⟩
    refine fw_tx 4 22 (B8 (b8I (flg m.pres 1))) rfl rfl rfl rfl (fun a h W hW => by obtain ⟨b13, r14⟩ := hW; exact (run_convOp (h.ev rfl) (cvI8 _ _))) (by kernel_rfl) (fun _ _ _ _ _ h => h) ?_
    refine fw_o1 8 (by kernel_rfl) ?_
    obtain ⟨B, hB⟩ : ∃ x, x = W11.heap.size := ⟨_, rfl⟩
    have : q1 < B := by rw [hB]; exact r14.2.2
    have hwB : w.heap.size ≤ B := by rw [hB]; exact b13.size
    have hBs : B ≤ W11.heap.size := Nat.le_of_eq hB
    have ho15 := ob_nil W11 B
    refine fw_oa rfl (t := 5) (u := fun q => .slice (some ⟨q, 0, none⟩) 2 2) 26 [B8 (b8I (flg m.pres 1)), B8 (b8I m.code)] rfl rfl rfl (fun a h => (bs8_2 _ (h.ev rfl) (h.ev rfl))) ?_
    intro q16 W17 g20 s18 r19
    have := Nat.le_trans b13.size g20
    have := r14.lt g20
    have hapq16 := ob_new ho15 g20
    have b21 := b13.trans (s18.mono b13.size)
    have r22 := r14.below s18
    have f23 := (below_own ho15 s18)
    have hBs := Nat.le_trans hBs s18.size
    refine ⟨⟨b21, r22⟩, ?_⟩
    refine fw_o1 9 (by kernel_rfl) ?_
    refine fw_ot rfl 27 rfl rfl rfl (fun a h => opTo_byt (l := ([] : List UInt8)) (ad := none) (c := 0) _ _ rfl (h.ev rfl) f23 (h.ev rfl) (slBB _ _ (b8I (flg m.pres 1)) (b8I m.code) r19) (by rw [nil_len]; omega) (by simp) hBs) ?_
    rintro _ V25 ⟨l24, a24, c24, rfl, hl24, hg24, ho24⟩
    have r26 := row_grew r22 hg24 (ob_off f23 (by omega))
    have r27 := row_grew r19 hg24 hapq16
    replace hapq16 := grew_off hg24 hapq16 r19.2.2
    have b28 := ob_low b21 f23 hg24 hwB (Nat.le_trans hwB hBs)
    have hBs := Nat.le_trans hBs hg24.1.size
    have hn24 : l24.length ≤ 1003 := by rw [hl24, List.length_append]; (try rw [nil_len]); first | (rw [bigv_length]; omega) | (rw [encS_len]; omega) | (rw [one_len]; omega) | (rw [two_len]; omega) | (rw [str_len]; omega) | (rw [mqtt_len]; omega)
    refine ⟨⟨b28, r26⟩, ?_⟩
    refine fw_tk 10 rfl rfl (by kernel_rfl) (fun _ _ _ _ _ h => h) ?_
    refine fw_ht (by kernel_rfl) ?_
    refine fw_rt (fw_br (fw_tr ?_))
    refine ⟨fun a h => ?_⟩
    exact ow_ret1 rfl h.df (h.g 2 rfl) ⟨_, _, _, rfl, by unfold bdG; simp [hb_7, hb_10, hl24], by omega, own_mono ho24 hwB, b28⟩
  refine fw_cF rfl hb_10 (fw_sq (fw_rg rfl ?_))
  iterate 2 refine fw_pu rfl ?_
  refine fw_dt ?_
  rcases Bool.eq_false_or_eq_true ((m.k == 3)) with hb_29 | hb_29
  · skip
    refine fw_cT rfl hb_29 (fw_sq (fw_rg rfl ?_))
    iterate 2 refine fw_pu rfl ?_
    refine fw_ld r4 rfl rfl ?_
    obtain ⟨B, hB⟩ : ∃ x, x = W2.heap.size := ⟨_, rfl⟩
    have : q1 < B := by rw [hB]; exact r4.2.2
    have hwB : w.heap.size ≤ B := by rw [hB]; exact b6.size
    have hBs : B ≤ W2.heap.size := Nat.le_of_eq hB
    have ho30 := ob_nil W2 B
    refine fw_ca Tryd.func76 rfl rfl rfl (strPut (l := ([] : List UInt8)) (ad := none) (c := 0) m.top ho30 (by omega) (by rw [nil_len]; omega) hBs) ?_
    rintro _ V32 ⟨l31, a31, c31, rfl, hl31, hg31, ho31⟩
    refine ⟨_, rfl, ?_⟩
    have r33 := row_grew r4 hg31 (ob_off ho30 (by omega))
    have b34 := ob_low b6 ho30 hg31 hwB (Nat.le_trans hwB hBs)
    have hBs := Nat.le_trans hBs hg31.1.size
    have hn31 : l31.length ≤ 1003 := by rw [hl31, List.length_append]; (try rw [nil_len]); first | (rw [bigv_length]; omega) | (rw [encS_len]; omega) | (rw [one_len]; omega) | (rw [two_len]; omega) | (rw [str_len]; omega) | (rw [mqtt_len]; omega)
    refine fw_pu rfl (fw_dt (fw_sq (fw_sq (fw_rg rfl (fw_pu rfl (fw_ld r33 rfl rfl (fw_pu rfl (fw_dt ?_))))))))
    rcases Bool.eq_false_or_eq_true ((decide (0 < m.q))) with hb_35 | hb_35
    · skip
      refine fw_cT rfl hb_35 (fw_rg rfl ?_)
      iterate 2 refine fw_pu rfl ?_
      refine fw_ld r33 rfl rfl ?_
      refine fw_ca Tryd.func77 rfl rfl rfl (numPut (l := l31) (ad := a31) (c := c31) m.id 2 ho31 (by decide) (by omega) hBs) ?_
      rintro _ V37 ⟨l36, a36, c36, rfl, hl36, hg36, ho36⟩
      refine ⟨_, rfl, ?_⟩
      have r38 := row_grew r33 hg36 (ob_off ho31 (by omega))
      have b39 := ob_low b34 ho31 hg36 hwB (Nat.le_trans hwB hBs)
      have hBs := Nat.le_trans hBs hg36.1.size
      have hn36 : l36.length ≤ 2006 := by rw [hl36, List.length_append]; (try rw [nil_len]); first | (rw [bigv_length]; omega) | (rw [encS_len]; omega) | (rw [one_len]; omega) | (rw [two_len]; omega) | (rw [str_len]; omega) | (rw [mqtt_len]; omega)
      refine fw_pu rfl (fw_dt (fw_sq (fw_rg rfl ?_)))
      iterate 2 refine fw_pu rfl ?_
      refine fw_ld r38 rfl rfl ?_
      refine fw_to 44 rfl rfl rfl (fun a h => opTo_str (l := l36) (ad := a36) (c := c36) _ _ rfl (h.ev rfl) ho36 (h.ev rfl) (by omega) (by omega) hBs) ?_
      rintro _ V41 ⟨l40, a40, c40, rfl, hl40, hg40, ho40⟩
      have r42 := row_grew r38 hg40 (ob_off ho36 (by omega))
      have b43 := ob_low b39 ho36 hg40 hwB (Nat.le_trans hwB hBs)
      have hBs := Nat.le_trans hBs hg40.1.size
      have hn40 : l40.length ≤ 3009 := by rw [hl40, List.length_append]; (try rw [nil_len]); first | (rw [bigv_length]; omega) | (rw [encS_len]; omega) | (rw [one_len]; omega) | (rw [two_len]; omega) | (rw [str_len]; omega) | (rw [mqtt_len]; omega)
      refine fw_pu rfl (fw_dt (fw_rt (fw_br (fw_tr ?_))))
      refine ⟨fun a h => ?_⟩
      exact ow_ret1 rfl h.df (h.g 2 rfl) ⟨_, _, _, rfl, by unfold bdG; simp [hb_7, hb_10, hb_29, hb_35, hl31, hl36, hl40], by omega, own_mono ho40 hwB, b43⟩
    refine fw_cF rfl hb_35 (fw_sk (fw_th (fw_sq (fw_rg rfl ?_))))
    iterate 2 refine fw_pu rfl ?_
    refine fw_ld r33 rfl rfl ?_
    refine fw_to 44 rfl rfl rfl (fun a h => opTo_str (l := l31) (ad := a31) (c := c31) _ _ rfl (h.ev rfl) ho31 (h.ev rfl) (by omega) (by omega) hBs) ?_
    rintro _ V45 ⟨l44, a44, c44, rfl, hl44, hg44, ho44⟩
    have r46 := row_grew r33 hg44 (ob_off ho31 (by omega))
    have b47 := ob_low b34 ho31 hg44 hwB (Nat.le_trans hwB hBs)
    have hBs := Nat.le_trans hBs hg44.1.size
    have hn44 : l44.length ≤ 2006 := by rw [hl44, List.length_append]; (try rw [nil_len]); first | (rw [bigv_length]; omega) | (rw [encS_len]; omega) | (rw [one_len]; omega) | (rw [two_len]; omega) | (rw [str_len]; omega) | (rw [mqtt_len]; omega)
    refine fw_pu rfl (fw_dt (fw_rt (fw_br (fw_tr ?_))))
    refine ⟨fun a h => ?_⟩
    exact ow_ret1 rfl h.df (h.g 2 rfl) ⟨_, _, _, rfl, by unfold bdG; simp [hb_7, hb_10, hb_29, hb_35, hl31, hl44], by omega, own_mono ho44 hwB, b47⟩
  refine fw_cF rfl hb_29 (fw_sq (fw_sq (fw_rg rfl ?_)))
  iterate 2 refine fw_pu rfl ?_
  refine fw_dt ?_
  rcases Bool.eq_false_or_eq_true ((m.k == 12)) with hb_48 | hb_48
  · skip
    refine fw_cT rfl hb_48 (fw_sk (fw_th (fw_cT rfl hb_48 (fw_sq (fw_rg rfl (fw_pu rfl (fw_dt (fw_rt (fw_br (fw_tr ?_))))))))))
    refine ⟨fun a h => ?_⟩
    exact ow_ret1 rfl h.df (h.g 2 rfl) ⟨[], none, 0, rfl, by unfold bdG; simp [hb_7, hb_10, hb_29, hb_48], Nat.zero_le _, ob_nil _ _, b6⟩
  refine fw_cF rfl hb_48 (fw_sq (fw_rg rfl ?_))
  iterate 2 refine fw_pu rfl ?_
  refine fw_dt ?_
  rcases Bool.eq_false_or_eq_true ((m.k == 13)) with hb_49 | hb_49
  · skip
    refine fw_cT rfl hb_49 (fw_sk (fw_th (fw_cT rfl hb_49 (fw_sq (fw_rg rfl (fw_pu rfl (fw_dt (fw_rt (fw_br (fw_tr ?_))))))))))
    refine ⟨fun a h => ?_⟩
    exact ow_ret1 rfl h.df (h.g 2 rfl) ⟨[], none, 0, rfl, by unfold bdG; simp [hb_7, hb_10, hb_29, hb_48, hb_49], Nat.zero_le _, ob_nil _ _, b6⟩
  refine fw_cF rfl hb_49 (fw_rg rfl ?_)
  iterate 2 refine fw_pu rfl ?_
  refine fw_dt ?_
  rcases Bool.eq_false_or_eq_true ((m.k == 14)) with hb_50 | hb_50
  · skip
    refine fw_cT rfl hb_50 (fw_sq (fw_rg rfl (fw_pu rfl (fw_dt (fw_rt (fw_br (fw_tr ?_)))))))
    refine ⟨fun a h => ?_⟩
    exact ow_ret1 rfl h.df (h.g 2 rfl) ⟨[], none, 0, rfl, by unfold bdG; simp [hb_7, hb_10, hb_29, hb_48, hb_49, hb_50], Nat.zero_le _, ob_nil _ _, b6⟩
  refine fw_cF rfl hb_50 (fw_sk (fw_bn (fw_th (fw_sq (fw_rg rfl ?_)))))
  iterate 2 refine fw_pu rfl ?_
  refine fw_ld r4 rfl rfl ?_
  obtain ⟨B, hB⟩ : ∃ x, x = W2.heap.size := ⟨_, rfl⟩
  have : q1 < B := by rw [hB]; exact r4.2.2
  have hwB : w.heap.size ≤ B := by rw [hB]; exact b6.size
  have hBs : B ≤ W2.heap.size := Nat.le_of_eq hB
  have ho51 := ob_nil W2 B
  refine fw_ca Tryd.func77 rfl rfl rfl (numPut (l := ([] : List UInt8)) (ad := none) (c := 0) m.id 2 ho51 (by decide) (by rw [nil_len]; omega) hBs) ?_
  rintro _ V53 ⟨l52, a52, c52, rfl, hl52, hg52, ho52⟩
  refine ⟨_, rfl, ?_⟩
  have r54 := row_grew r4 hg52 (ob_off ho51 (by omega))
  have b55 := ob_low b6 ho51 hg52 hwB (Nat.le_trans hwB hBs)
  have hBs := Nat.le_trans hBs hg52.1.size
  have hn52 : l52.length ≤ 1003 := by rw [hl52, List.length_append]; (try rw [nil_len]); first | (rw [bigv_length]; omega) | (rw [encS_len]; omega) | (rw [one_len]; omega) | (rw [two_len]; omega) | (rw [str_len]; omega) | (rw [mqtt_len]; omega)
  refine fw_pu rfl (fw_dt (fw_sq (fw_sq (fw_rg rfl (fw_pu rfl (fw_ld r54 rfl rfl ?_))))))
  iterate 2 refine fw_pu rfl ?_
  refine fw_dt (fw_bk ?_)
  refine fw_lp (fun N K W => ∃ (iw : Nat) (liw : List UInt8) (aiw : Option Addr) (ciw : Nat), N = m.ws.length - iw ∧ iw ≤ m.ws.length ∧ liw = l52 ++ (m.ws.take iw).flatMap encW ∧ liw.length ≤ 1003 + iw * 2006 ∧ B ≤ W.heap.size ∧ K = [(1, .pointer (some ⟨q1, 0, none⟩)), (3, .slice aiw liw.length ciw), (54, .slice aw m.ws.length cw), (55, .int .i64 ((m.ws.length : Nat) : Int)), (56, .int .i64 ((iw : Nat) : Int))] ∧ Below w.heap.size w W ∧ RowAt W q1 (Mq.row m (.slice ac m.cs.length cc) (.slice aw m.ws.length cw) (.slice af m.fs.length cf)) ∧ OB W B aiw ciw liw) _ _ ⟨0, l52, a52, c52, rfl, Nat.zero_le _, (by simp), (by omega), hBs, rfl, b55, r54, ho52⟩ ⟨rfl, (by first | rfl | (simp only [Look, cond, Nat.beq]; first | rfl | (congr 2; first | rfl | omega | (push_cast; omega)) | (simp; try omega))), rfl, rfl, (by first | rfl | (simp only [Look, cond, Nat.beq]; first | rfl | (congr 2; first | rfl | omega | (push_cast; omega)) | (simp; try omega))), trivial⟩ ?_
  rintro N _ W56 ⟨iw, liw, aiw, ciw, rfl, hil, hliw, hlniw, hBs, rfl, bW56, rW56_0, gW56_0⟩
  intro K58 hK58
  refine fw_sq (fw_rg rfl (fw_pu rfl (fw_dt (fw_sq ?_))))
  rcases Bool.eq_false_or_eq_true ((decide (((iw : Nat) : Int) < ((m.ws.length : Nat) : Int)))) with hb_59 | hb_59
  · skip
    refine fw_cT rfl hb_59 (fw_sk (fw_th (fw_sq (fw_bk (fw_sq ?_)))))
    have hiL : iw < m.ws.length := by have h := of_decide_eq_true hb_59; omega
    obtain ⟨x0, hx0⟩ : ∃ p, m.ws[iw]? = some p := ⟨_, List.getElem?_eq_getElem hiL⟩
    obtain ⟨bP, oP, haP, hbP, hcP⟩ := slR_at hL.w (i := iw) (q := rowWish x0) (by rw [List.getElem?_map, hx0]; rfl)
    have hsz := hS.wsf x0 (List.mem_of_getElem? hx0)
    refine fw_rg rfl ?_
    refine fw_ex 58 (.pointer (some ⟨bP, (oP + iw * 2), none⟩)) rfl rfl rfl (fun a h => (run_indexOp (h.ev rfl) (h.ev rfl) (by rw [haP]; exact idxWs _ _ _ _ _ hiL _))) ?_
    refine fw_ex 59 (.agg #[.string x0.f, .int .i64 x0.q]) rfl rfl rfl (fun a h => (run_loadOp (h.ev rfl) (ldW2 (fun j u hj => (Below.cell bW56 (p := ⟨bP, oP + iw * 2 + j, none⟩) hbP).trans (hcP j u hj))))) ?_
    refine fw_al (t := 93) (u := fun q => .pointer (some ⟨q, 0, none⟩)) 5 [.string { data := #[] }, .int .i64 0] rfl rfl rfl (fun a h => (run_allocOp (by simp [go_sem, Instr.alloc]))) ?_
    intro q60 W61 g64 s62 r63
    have := Nat.le_trans bW56.size g64
    have := rW56_0.lt g64
    have hapq60 := ob_new gW56_0 g64
    have b65 := bW56.trans (s62.mono bW56.size)
    have r66 := rW56_0.below s62
    have f67 := (below_own gW56_0 s62)
    have hBs := Nat.le_trans hBs s62.size
    refine fw_st r63 rfl rfl ?_
    intro W68 s69 r70
    have b71 := below_chg b65 s69 (by omega) b65.size
    have r72 := r66.chg s69 (by omega)
    have hBs := Nat.le_trans hBs s69.size
    have f73 := (ob_chg f67 s69 hapq60)
    refine fw_dt ?_
    refine fw_hr (fun X => Below w.heap.size w X ∧ RowAt X q1 (Mq.row m (.slice ac m.cs.length cc) (.slice aw m.ws.length cw) (.slice af m.fs.length cf)) ∧ RowAt X q60 [.string x0.f, .int .i64 x0.q]) (by kernel_rfl) 10 rfl ?_
    intro W74 s75
    have b76 := b71.trans (s75.mono b71.size)
    have r77 := r72.below s75
    have r78 := r70.below s75
    have f79 := (below_own f73 s75)
    have hBs := Nat.le_trans hBs s75.size
    refine ⟨⟨b76, r77, r78⟩, ?_⟩
    refine fw_tk 0 rfl rfl (by kernel_rfl) (fun _ _ _ _ _ h => h) ?_
    refine fw_tk 1 rfl rfl (by kernel_rfl) (fun _ _ _ _ _ h => h) ?_
    refine fw_tl 2 (fun _ h => h.2.2) rfl rfl rfl (by kernel_rfl) (fun _ _ _ _ _ h => h) ?_
    refine fw_tk 4 rfl rfl (by kernel_rfl) (fun _ _ _ _ _ h => h) ?_
    refine fw_tl 5 (fun _ h => h.2.2) rfl rfl rfl (by kernel_rfl) (fun _ _ _ _ _ h => h) ?_
    refine fw_tx 6 66 (B8 (b8I x0.q)) rfl rfl rfl rfl (fun a h W hW => by obtain ⟨b76, r77, r78⟩ := hW; exact (run_convOp (h.ev rfl) (cvI8 _ _))) (by kernel_rfl) (fun _ _ _ _ _ h => h) ?_
    refine fw_o2 3 7 (by kernel_rfl) ?_ ?_
    · skip
      refine fw_oc rfl Tryd.func76 rfl rfl rfl (strPut (l := liw) (ad := aiw) (c := ciw) x0.f f79 (by omega) (by omega) hBs) ?_
      rintro _ V81 ⟨l80, a80, c80, rfl, hl80, hg80, ho80⟩
      refine ⟨_, rfl, ?_⟩
      have r82 := row_grew r77 hg80 (ob_off f79 (by omega))
      have r83 := row_grew r78 hg80 hapq60
      replace hapq60 := grew_off hg80 hapq60 r78.2.2
      have b84 := ob_low b76 f79 hg80 hwB (Nat.le_trans hwB hBs)
      have hBs := Nat.le_trans hBs hg80.1.size
      have hn80 : l80.length ≤ 2006 + iw * 2006 := by rw [hl80, List.length_append]; (try rw [nil_len]); first | (rw [bigv_length]; omega) | (rw [encS_len]; omega) | (rw [one_len]; omega) | (rw [two_len]; omega) | (rw [str_len]; omega) | (rw [mqtt_len]; omega)
      refine ⟨⟨b84, r82, r83⟩, ?_⟩
      refine fw_o1 7 (by kernel_rfl) ?_
      refine fw_oa rfl (t := 5) (u := fun q => .slice (some ⟨q, 0, none⟩) 1 1) 67 [B8 (b8I x0.q)] rfl rfl rfl (fun a h => (bs8_1 _ (h.ev rfl))) ?_
      intro q85 W86 g89 s87 r88
      have := Nat.le_trans b84.size g89
      have := r82.lt g89
      have := r83.lt g89
      have hapq85 := ob_new ho80 g89
      have b90 := b84.trans (s87.mono b84.size)
      have r91 := r82.below s87
      have r92 := r83.below s87
      have f93 := (below_own ho80 s87)
      have hBs := Nat.le_trans hBs s87.size
      refine ⟨⟨b90, r91, r92⟩, ?_⟩
      refine fw_o1 8 (by kernel_rfl) ?_
      refine fw_ot rfl 68 rfl rfl rfl (fun a h => opTo_byt (l := l80) (ad := a80) (c := c80) _ _ rfl (h.ev rfl) f93 (h.ev rfl) (slB _ _ (b8I x0.q) r88) (by omega) (by simp) hBs) ?_
      rintro _ V95 ⟨l94, a94, c94, rfl, hl94, hg94, ho94⟩
      have r96 := row_grew r91 hg94 (ob_off f93 (by omega))
      have r97 := row_grew r92 hg94 hapq60
      have r98 := row_grew r88 hg94 hapq85
      replace hapq60 := grew_off hg94 hapq60 r92.2.2
      replace hapq85 := grew_off hg94 hapq85 r88.2.2
      have b99 := ob_low b90 f93 hg94 hwB (Nat.le_trans hwB hBs)
      have hBs := Nat.le_trans hBs hg94.1.size
      have hn94 : l94.length ≤ 3009 + iw * 2006 := by rw [hl94, List.length_append]; (try rw [nil_len]); first | (rw [bigv_length]; omega) | (rw [encS_len]; omega) | (rw [one_len]; omega) | (rw [two_len]; omega) | (rw [str_len]; omega) | (rw [mqtt_len]; omega)
      refine ⟨⟨b99, r96, r97⟩, ?_⟩
      refine fw_tk 9 rfl rfl (by kernel_rfl) (fun _ _ _ _ _ h => h) ?_
      refine fw_hz (by kernel_rfl) ?_
      refine fw_bn (fw_th (fw_rg rfl ?_))
      refine fw_ex 69 (.int .i64 (((iw + 1) : Nat) : Int)) rfl rfl rfl (fun a h => (run_binOp (h.ev rfl) (h.ev rfl) (by simp [go_sem]) (addIw _ _ _ _ (by omega) (by omega) (by omega)))) ?_
      refine fw_pu rfl (fw_dn ?_)
      exact fw_th (fw_gf (hK58 _ _ _ (by omega) ⟨(iw + 1), l94, a94, c94, rfl, hiL, (by rw [hl94, hl80, hliw, take_fm hx0]; simp [encW]), (by omega), hBs, rfl, b99, r96, ho94⟩) ⟨rfl, (by first | rfl | (simp only [Look, cond, Nat.beq]; first | rfl | (congr 2; first | rfl | omega | (push_cast; omega)) | (simp; try omega))), rfl, rfl, (by first | rfl | (simp only [Look, cond, Nat.beq]; first | rfl | (congr 2; first | rfl | omega | (push_cast; omega)) | (simp; try omega))), trivial⟩)
    refine fw_oa rfl (t := 5) (u := fun q => .slice (some ⟨q, 0, none⟩) 1 1) 67 [B8 (b8I x0.q)] rfl rfl rfl (fun a h => (bs8_1 _ (h.ev rfl))) ?_
    intro q100 W101 g104 s102 r103
    have := Nat.le_trans b76.size g104
    have := r77.lt g104
    have := r78.lt g104
    have hapq100 := ob_new f79 g104
    have b105 := b76.trans (s102.mono b76.size)
    have r106 := r77.below s102
    have r107 := r78.below s102
    have f108 := (below_own f79 s102)
    have hBs := Nat.le_trans hBs s102.size
    refine ⟨⟨b105, r106, r107⟩, ?_⟩
    refine fw_o1 3 (by kernel_rfl) ?_
    refine fw_oc rfl Tryd.func76 rfl rfl rfl (strPut (l := liw) (ad := aiw) (c := ciw) x0.f f108 (by omega) (by omega) hBs) ?_
    rintro _ V110 ⟨l109, a109, c109, rfl, hl109, hg109, ho109⟩
    refine ⟨_, rfl, ?_⟩
    have r111 := row_grew r106 hg109 (ob_off f108 (by omega))
    have r112 := row_grew r107 hg109 hapq60
    have r113 := row_grew r103 hg109 hapq100
    replace hapq60 := grew_off hg109 hapq60 r107.2.2
    replace hapq100 := grew_off hg109 hapq100 r103.2.2
    have b114 := ob_low b105 f108 hg109 hwB (Nat.le_trans hwB hBs)
    have hBs := Nat.le_trans hBs hg109.1.size
    have hn109 : l109.length ≤ 2006 + iw * 2006 := by rw [hl109, List.length_append]; (try rw [nil_len]); first | (rw [bigv_length]; omega) | (rw [encS_len]; omega) | (rw [one_len]; omega) | (rw [two_len]; omega) | (rw [str_len]; omega) | (rw [mqtt_len]; omega)
    refine ⟨⟨b114, r111, r112⟩, ?_⟩
    refine fw_o1 8 (by kernel_rfl) ?_
    refine fw_ot rfl 68 rfl rfl rfl (fun a h => opTo_byt (l := l109) (ad := a109) (c := c109) _ _ rfl (h.ev rfl) ho109 (h.ev rfl) (slB _ _ (b8I x0.q) r113) (by omega) (by simp) hBs) ?_
    rintro _ V116 ⟨l115, a115, c115, rfl, hl115, hg115, ho115⟩
    have r117 := row_grew r111 hg115 (ob_off ho109 (by omega))
    have r118 := row_grew r112 hg115 hapq60
    have r119 := row_grew r113 hg115 hapq100
    replace hapq60 := grew_off hg115 hapq60 r112.2.2
    replace hapq100 := grew_off hg115 hapq100 r113.2.2
    have b120 := ob_low b114 ho109 hg115 hwB (Nat.le_trans hwB hBs)
    have hBs := Nat.le_trans hBs hg115.1.size
    have hn115 : l115.length ≤ 3009 + iw * 2006 := by rw [hl115, List.length_append]; (try rw [nil_len]); first | (rw [bigv_length]; omega) | (rw [encS_len]; omega) | (rw [one_len]; omega) | (rw [two_len]; omega) | (rw [str_len]; omega) | (rw [mqtt_len]; omega)
    refine ⟨⟨b120, r117, r118⟩, ?_⟩
    refine fw_tk 9 rfl rfl (by kernel_rfl) (fun _ _ _ _ _ h => h) ?_
    refine fw_hz (by kernel_rfl) ?_
    refine fw_bn (fw_th (fw_rg rfl ?_))
    refine fw_ex 69 (.int .i64 (((iw + 1) : Nat) : Int)) rfl rfl rfl (fun a h => (run_binOp (h.ev rfl) (h.ev rfl) (by simp [go_sem]) (addIw _ _ _ _ (by omega) (by omega) (by omega)))) ?_
    refine fw_pu rfl (fw_dn ?_)
    exact fw_th (fw_gf (hK58 _ _ _ (by omega) ⟨(iw + 1), l115, a115, c115, rfl, hiL, (by rw [hl115, hl109, hliw, take_fm hx0]; simp [encW]), (by omega), hBs, rfl, b120, r117, ho115⟩) ⟨rfl, (by first | rfl | (simp only [Look, cond, Nat.beq]; first | rfl | (congr 2; first | rfl | omega | (push_cast; omega)) | (simp; try omega))), rfl, rfl, (by first | rfl | (simp only [Look, cond, Nat.beq]; first | rfl | (congr 2; first | rfl | omega | (push_cast; omega)) | (simp; try omega))), trivial⟩)
  refine fw_cF rfl hb_59 (fw_xt (fw_te (fw_te (fw_be (fw_th (fw_sq (fw_sq ?_)))))))
  have hiiw : iw = m.ws.length := by have h := of_decide_eq_false hb_59; omega
  rw [hiiw, List.take_length] at hliw
  have hniwx : liw.length ≤ 17051 := by omega
  refine fw_rg rfl (fw_pu rfl (fw_ld rW56_0 rfl rfl ?_))
  iterate 2 refine fw_pu rfl ?_
  refine fw_dt (fw_bk ?_)
  refine fw_lp (fun N K W => ∃ (ic : Nat) (lic : List UInt8) (aic : Option Addr) (cic : Nat), N = m.cs.length - ic ∧ ic ≤ m.cs.length ∧ lic = liw ++ (m.cs.take ic).map b8I ∧ lic.length ≤ 17051 + ic * 2006 ∧ B ≤ W.heap.size ∧ K = [(1, .pointer (some ⟨q1, 0, none⟩)), (3, .slice aic lic.length cic), (71, .slice ac m.cs.length cc), (72, .int .i64 ((m.cs.length : Nat) : Int)), (73, .int .i64 ((ic : Nat) : Int))] ∧ Below w.heap.size w W ∧ RowAt W q1 (Mq.row m (.slice ac m.cs.length cc) (.slice aw m.ws.length cw) (.slice af m.fs.length cf)) ∧ OB W B aic cic lic) _ _ ⟨0, liw, aiw, ciw, rfl, Nat.zero_le _, (by simp), (by omega), hBs, rfl, bW56, rW56_0, gW56_0⟩ ⟨rfl, (by first | rfl | (simp only [Look, cond, Nat.beq]; first | rfl | (congr 2; first | rfl | omega | (push_cast; omega)) | (simp; try omega))), rfl, rfl, (by first | rfl | (simp only [Look, cond, Nat.beq]; first | rfl | (congr 2; first | rfl | omega | (push_cast; omega)) | (simp; try omega))), trivial⟩ ?_
  rintro N _ W121 ⟨ic, lic, aic, cic, rfl, hil, hlic, hlnic, hBs, rfl, bW121, rW121_0, gW121_0⟩
  intro K123 hK123
  refine fw_sq (fw_rg rfl (fw_pu rfl (fw_dt (fw_sq ?_))))
  rcases Bool.eq_false_or_eq_true ((decide (((ic : Nat) : Int) < ((m.cs.length : Nat) : Int)))) with hb_124 | hb_124
  · skip
    refine fw_cT rfl hb_124 (fw_sk (fw_th (fw_sq (fw_bk (fw_sq ?_)))))
    have hiL : ic < m.cs.length := by have h := of_decide_eq_true hb_124; omega
    obtain ⟨x0, hx0⟩ : ∃ p, m.cs[ic]? = some p := ⟨_, List.getElem?_eq_getElem hiL⟩
    obtain ⟨bP, oP, haP, hbP, hcP⟩ := slR_at hL.c (i := ic) (q := cn x0) (by rw [List.getElem?_map, hx0]; rfl)
    refine fw_rg rfl ?_
    refine fw_ex 75 (.pointer (some ⟨bP, (oP + ic * 1), none⟩)) rfl rfl rfl (fun a h => (run_indexOp (h.ev rfl) (h.ev rfl) (by rw [haP]; exact idxIs _ _ _ _ _ hiL _))) ?_
    refine fw_ex 76 (.int .i64 x0) rfl rfl rfl (fun a h => (run_loadOp (h.ev rfl) (ldI1 ((Below.cell bW121 (p := ⟨bP, oP + ic * 1, none⟩) hbP).trans (hcP 0 _ rfl))))) ?_
    refine fw_pu rfl (fw_dt (fw_rg rfl ?_))
    iterate 2 refine fw_pu rfl ?_
    refine fw_ex 79 (B8 (b8I x0)) rfl rfl rfl (fun a h => (run_convOp (h.ev rfl) (cvI8 _ _))) ?_
    refine fw_al (t := 5) (u := fun q => .slice (some ⟨q, 0, none⟩) 1 1) 80 [B8 (b8I x0)] rfl rfl rfl (fun a h => (bs8_1 _ (h.ev rfl))) ?_
    intro q125 W126 g129 s127 r128
    have := Nat.le_trans bW121.size g129
    have := rW121_0.lt g129
    have hapq125 := ob_new gW121_0 g129
    have b130 := bW121.trans (s127.mono bW121.size)
    have r131 := rW121_0.below s127
    have f132 := (below_own gW121_0 s127)
    have hBs := Nat.le_trans hBs s127.size
    refine fw_to 81 rfl rfl rfl (fun a h => opTo_byt (l := lic) (ad := aic) (c := cic) _ _ rfl (h.ev rfl) f132 (h.ev rfl) (slB _ _ (b8I x0) r128) (by omega) (by simp) hBs) ?_
    rintro _ V134 ⟨l133, a133, c133, rfl, hl133, hg133, ho133⟩
    have r135 := row_grew r131 hg133 (ob_off f132 (by omega))
    have r136 := row_grew r128 hg133 hapq125
    replace hapq125 := grew_off hg133 hapq125 r128.2.2
    have b137 := ob_low b130 f132 hg133 hwB (Nat.le_trans hwB hBs)
    have hBs := Nat.le_trans hBs hg133.1.size
    have hn133 : l133.length ≤ 18054 + ic * 2006 := by rw [hl133, List.length_append]; (try rw [nil_len]); first | (rw [bigv_length]; omega) | (rw [encS_len]; omega) | (rw [one_len]; omega) | (rw [two_len]; omega) | (rw [str_len]; omega) | (rw [mqtt_len]; omega)
    refine fw_pu rfl (fw_dn (fw_bn (fw_th (fw_rg rfl ?_))))
    refine fw_ex 82 (.int .i64 (((ic + 1) : Nat) : Int)) rfl rfl rfl (fun a h => (run_binOp (h.ev rfl) (h.ev rfl) (by simp [go_sem]) (addIw _ _ _ _ (by omega) (by omega) (by omega)))) ?_
    refine fw_pu rfl (fw_dn ?_)
    exact fw_th (fw_gf (hK123 _ _ _ (by omega) ⟨(ic + 1), l133, a133, c133, rfl, hiL, (by rw [hl133, hlic, take_mp hx0]; simp [List.append_assoc]), (by omega), hBs, rfl, b137, r135, ho133⟩) ⟨rfl, (by first | rfl | (simp only [Look, cond, Nat.beq]; first | rfl | (congr 2; first | rfl | omega | (push_cast; omega)) | (simp; try omega))), rfl, rfl, (by first | rfl | (simp only [Look, cond, Nat.beq]; first | rfl | (congr 2; first | rfl | omega | (push_cast; omega)) | (simp; try omega))), trivial⟩)
  refine fw_cF rfl hb_124 (fw_xt (fw_te (fw_te (fw_be (fw_th (fw_sq (fw_sq ?_)))))))
  have hiic : ic = m.cs.length := by have h := of_decide_eq_false hb_124; omega
  rw [hiic, List.take_length] at hlic
  have hnicx : lic.length ≤ 33099 := by omega
  refine fw_rg rfl (fw_pu rfl (fw_ld rW121_0 rfl rfl ?_))
  iterate 2 refine fw_pu rfl ?_
  refine fw_dt (fw_bk ?_)
  refine fw_lp (fun N K W => ∃ (jf : Nat) (ljf : List UInt8) (ajf : Option Addr) (cjf : Nat), N = m.fs.length - jf ∧ jf ≤ m.fs.length ∧ ljf = lic ++ (m.fs.take jf).flatMap encS ∧ ljf.length ≤ 33099 + jf * 2006 ∧ B ≤ W.heap.size ∧ K = [(3, .slice ajf ljf.length cjf), (84, .slice af m.fs.length cf), (85, .int .i64 ((m.fs.length : Nat) : Int)), (86, .int .i64 ((jf : Nat) : Int))] ∧ Below w.heap.size w W ∧ RowAt W q1 (Mq.row m (.slice ac m.cs.length cc) (.slice aw m.ws.length cw) (.slice af m.fs.length cf)) ∧ OB W B ajf cjf ljf) _ _ ⟨0, lic, aic, cic, rfl, Nat.zero_le _, (by simp), (by omega), hBs, rfl, bW121, rW121_0, gW121_0⟩ ⟨(by first | rfl | (simp only [Look, cond, Nat.beq]; first | rfl | (congr 2; first | rfl | omega | (push_cast; omega)) | (simp; try omega))), rfl, rfl, (by first | rfl | (simp only [Look, cond, Nat.beq]; first | rfl | (congr 2; first | rfl | omega | (push_cast; omega)) | (simp; try omega))), trivial⟩ ?_
  rintro N _ W138 ⟨jf, ljf, ajf, cjf, rfl, hil, hljf, hlnjf, hBs, rfl, bW138, rW138_0, gW138_0⟩
  intro K140 hK140
  refine fw_sq (fw_rg rfl (fw_pu rfl (fw_dt (fw_sq ?_))))
  rcases Bool.eq_false_or_eq_true ((decide (((jf : Nat) : Int) < ((m.fs.length : Nat) : Int)))) with hb_141 | hb_141
  · skip
    refine fw_cT rfl hb_141 (fw_sk (fw_th (fw_sq (fw_bk (fw_sq ?_)))))
    have hiL : jf < m.fs.length := by have h := of_decide_eq_true hb_141; omega
    obtain ⟨x0, hx0⟩ : ∃ p, m.fs[jf]? = some p := ⟨_, List.getElem?_eq_getElem hiL⟩
    obtain ⟨bP, oP, haP, hbP, hcP⟩ := slR_at hL.f (i := jf) (q := cs1 x0) (by rw [List.getElem?_map, hx0]; rfl)
    have hsz := hS.fsf x0 (List.mem_of_getElem? hx0)
    refine fw_rg rfl ?_
    refine fw_ex 88 (.pointer (some ⟨bP, (oP + jf * 1), none⟩)) rfl rfl rfl (fun a h => (run_indexOp (h.ev rfl) (h.ev rfl) (by rw [haP]; exact idxSs _ _ _ _ _ hiL _))) ?_
    refine fw_ex 89 (.string x0) rfl rfl rfl (fun a h => (run_loadOp (h.ev rfl) (ldS1 ((Below.cell bW138 (p := ⟨bP, oP + jf * 1, none⟩) hbP).trans (hcP 0 _ rfl))))) ?_
    refine fw_pu rfl (fw_dt (fw_rg rfl ?_))
    iterate 2 refine fw_pu rfl ?_
    refine fw_ca Tryd.func76 rfl rfl rfl (strPut (l := ljf) (ad := ajf) (c := cjf) x0 gW138_0 (by omega) (by omega) hBs) ?_
    rintro _ V143 ⟨l142, a142, c142, rfl, hl142, hg142, ho142⟩
    refine ⟨_, rfl, ?_⟩
    have r144 := row_grew rW138_0 hg142 (ob_off gW138_0 (by omega))
    have b145 := ob_low bW138 gW138_0 hg142 hwB (Nat.le_trans hwB hBs)
    have hBs := Nat.le_trans hBs hg142.1.size
    have hn142 : l142.length ≤ 34102 + jf * 2006 := by rw [hl142, List.length_append]; (try rw [nil_len]); first | (rw [bigv_length]; omega) | (rw [encS_len]; omega) | (rw [one_len]; omega) | (rw [two_len]; omega) | (rw [str_len]; omega) | (rw [mqtt_len]; omega)
    refine fw_pu rfl (fw_dn (fw_bn (fw_th (fw_rg rfl ?_))))
    refine fw_ex 93 (.int .i64 (((jf + 1) : Nat) : Int)) rfl rfl rfl (fun a h => (run_binOp (h.ev rfl) (h.ev rfl) (by simp [go_sem]) (addIw _ _ _ _ (by omega) (by omega) (by omega)))) ?_
    refine fw_pu rfl (fw_dn ?_)
    exact fw_th (fw_gf (hK140 _ _ _ (by omega) ⟨(jf + 1), l142, a142, c142, rfl, hiL, (by rw [hl142, hljf, take_fm hx0]; simp [List.append_assoc]), (by omega), hBs, rfl, b145, r144, ho142⟩) ⟨(by first | rfl | (simp only [Look, cond, Nat.beq]; first | rfl | (congr 2; first | rfl | omega | (push_cast; omega)) | (simp; try omega))), rfl, rfl, (by first | rfl | (simp only [Look, cond, Nat.beq]; first | rfl | (congr 2; first | rfl | omega | (push_cast; omega)) | (simp; try omega))), trivial⟩)
  refine fw_cF rfl hb_141 (fw_xt (fw_te (fw_te (fw_be (fw_th (fw_sq ?_))))))
  have hijf : jf = m.fs.length := by have h := of_decide_eq_false hb_141; omega
  rw [hijf, List.take_length] at hljf
  have hnjfx : ljf.length ≤ 49147 := by omega
  refine fw_rg rfl ?_
  iterate 2 refine fw_pu rfl ?_
  refine fw_dt (fw_rt ?_)
  refine ⟨fun a h => ?_⟩
  exact ow_ret1 rfl h.df (h.g 2 rfl) ⟨_, _, _, rfl, by unfold bdG; simp [hb_7, hb_10, hb_29, hb_48, hb_49, hb_50, hl52, hliw, hlic, hljf], by omega, own_mono gW138_0 hwB, bW138⟩
end
end Go.Proofs.YtpgnlhfokffioaaDoor
namespace Go.Proofs.YtpgnlhfokffioaaDoor
section
open Go.RowKit Go.Lib
def zM (k : Int) : Mq := { k := k, cl := E0, clean := false, keep := 0, wI := false, wT := E0, wP := E0, wQ := 0, wR := false, us := E0, hu := false, pa := E0, hp := false, pres := false, code := 0, cs := [], dup := false, q := 0, re := false, top := E0, id := 0, pay := E0, ws := [], fs := [] }
theorem noB_zM {m : Mq} (h : m.noB = true) : m = zM m.k := by
  obtain ⟨k, cl, clean, keep, wI, wT, wP, wQ, wR, us, hu, pa, hp, pres, code, cs, dup, q, re, top, id, pay, ws, fs⟩ := m
  simp only [Mq.noB, Bool.and_eq_true, Bool.not_eq_true', beq_iff_eq, isE_iff] at h
  obtain ⟨⟨⟨⟨⟨⟨⟨⟨⟨⟨⟨⟨⟨⟨⟨⟨⟨⟨h1, h2⟩, h3⟩, ⟨⟨⟨⟨h4, h5⟩, h6⟩, h7⟩, h8⟩⟩, h9⟩, h10⟩, h11⟩, h12⟩, h13⟩, h14⟩, h15⟩, h16⟩, h17⟩, h18⟩, h19⟩, h20⟩, h21⟩, h22⟩, h23⟩ := h
  have e1 : cs = [] := List.eq_nil_of_length_eq_zero (by omega)
  have e2 : ws = [] := List.eq_nil_of_length_eq_zero (by omega)
  have e3 : fs = [] := List.eq_nil_of_length_eq_zero (by omega)
  subst h1 h2 h3 h4 h5 h6 h7 h8 h9 h10 h11 h12 h13 h14 e1 h16 h17 h18 h19 h20 h21 e2 e3
  rfl
theorem tx_le {s : ByteArray} {lo : Int} {hi : Nat} (h : txG s lo hi = true) : s.size ≤ hi := by
  unfold txG at h
  simp only [Bool.and_eq_true, decide_eq_true_eq] at h
  omega
theorem qs_le {n : Int} (h : qsG n = true) : 0 ≤ n ∧ n ≤ 2 := by
  unfold qsG at h
  simpa using h
theorem ct_le {n : Nat} (h : ctG n = true) : 1 ≤ n ∧ n ≤ 8 := by
  unfold ctG at h
  simp only [Bool.and_eq_true, decide_eq_true_eq] at h
  omega
theorem id_le {n : Int} (h : idG n = true) : 1 ≤ n ∧ n ≤ 65535 := by
  unfold idG at h
  simpa using h
theorem mf_1 {m : Mq} (h : mayG m = true) (hk : m.k = 1) : (cnG m = true) ∧ m = { zM 1 with cl := m.cl, clean := m.clean, keep := m.keep, wI := m.wI, wT := m.wT, wP := m.wP, wQ := m.wQ, wR := m.wR, us := m.us, hu := m.hu, pa := m.pa, hp := m.hp } := by
  unfold mayG at h
  rw [Bool.and_eq_true] at h
  obtain ⟨hv, hb⟩ := h
  obtain ⟨k, cl, clean, keep, wI, wT, wP, wQ, wR, us, hu, pa, hp, pres, code, cs, dup, q, re, top, id, pay, ws, fs⟩ := m
  dsimp only at hk
  subst hk
  have e := noB_zM hb
  have e_pres : pres = false := congrArg Mq.pres e
  have e_code : code = 0 := congrArg Mq.code e
  have e_cs : cs = [] := congrArg Mq.cs e
  have e_dup : dup = false := congrArg Mq.dup e
  have e_q : q = 0 := congrArg Mq.q e
  have e_re : re = false := congrArg Mq.re e
  have e_top : top = E0 := congrArg Mq.top e
  have e_id : id = 0 := congrArg Mq.id e
  have e_pay : pay = E0 := congrArg Mq.pay e
  have e_ws : ws = [] := congrArg Mq.ws e
  have e_fs : fs = [] := congrArg Mq.fs e
  subst e_pres e_code e_cs e_dup e_q e_re e_top e_id e_pay e_ws e_fs
  exact ⟨hv, rfl⟩
theorem mf_2 {m : Mq} (h : mayG m = true) (hk : m.k = 2) : ((decide (0 ≤ m.code) && (decide (m.code ≤ 5) && (!m.pres || m.code == 0))) = true) ∧ m = { zM 2 with pres := m.pres, code := m.code } := by
  unfold mayG at h
  rw [Bool.and_eq_true] at h
  obtain ⟨hv, hb⟩ := h
  obtain ⟨k, cl, clean, keep, wI, wT, wP, wQ, wR, us, hu, pa, hp, pres, code, cs, dup, q, re, top, id, pay, ws, fs⟩ := m
  dsimp only at hk
  subst hk
  have e := noB_zM hb
  have e_cl : cl = E0 := congrArg Mq.cl e
  have e_clean : clean = false := congrArg Mq.clean e
  have e_keep : keep = 0 := congrArg Mq.keep e
  have e_wI : wI = false := congrArg Mq.wI e
  have e_wT : wT = E0 := congrArg Mq.wT e
  have e_wP : wP = E0 := congrArg Mq.wP e
  have e_wQ : wQ = 0 := congrArg Mq.wQ e
  have e_wR : wR = false := congrArg Mq.wR e
  have e_us : us = E0 := congrArg Mq.us e
  have e_hu : hu = false := congrArg Mq.hu e
  have e_pa : pa = E0 := congrArg Mq.pa e
  have e_hp : hp = false := congrArg Mq.hp e
  have e_cs : cs = [] := congrArg Mq.cs e
  have e_dup : dup = false := congrArg Mq.dup e
  have e_q : q = 0 := congrArg Mq.q e
  have e_re : re = false := congrArg Mq.re e
  have e_top : top = E0 := congrArg Mq.top e
  have e_id : id = 0 := congrArg Mq.id e
  have e_pay : pay = E0 := congrArg Mq.pay e
  have e_ws : ws = [] := congrArg Mq.ws e
  have e_fs : fs = [] := congrArg Mq.fs e
  subst e_cl e_clean e_keep e_wI e_wT e_wP e_wQ e_wR e_us e_hu e_pa e_hp e_cs e_dup e_q e_re e_top e_id e_pay e_ws e_fs
  exact ⟨hv, rfl⟩
theorem mf_3 {m : Mq} (h : mayG m = true) (hk : m.k = 3) : (pbG m = true) ∧ m = { zM 3 with top := m.top, q := m.q, re := m.re, pay := m.pay, dup := m.dup, id := m.id } := by
  unfold mayG at h
  rw [Bool.and_eq_true] at h
  obtain ⟨hv, hb⟩ := h
  obtain ⟨k, cl, clean, keep, wI, wT, wP, wQ, wR, us, hu, pa, hp, pres, code, cs, dup, q, re, top, id, pay, ws, fs⟩ := m
  dsimp only at hk
  subst hk
  have e := noB_zM hb
  have e_cl : cl = E0 := congrArg Mq.cl e
  have e_clean : clean = false := congrArg Mq.clean e
  have e_keep : keep = 0 := congrArg Mq.keep e
  have e_wI : wI = false := congrArg Mq.wI e
  have e_wT : wT = E0 := congrArg Mq.wT e
  have e_wP : wP = E0 := congrArg Mq.wP e
  have e_wQ : wQ = 0 := congrArg Mq.wQ e
  have e_wR : wR = false := congrArg Mq.wR e
  have e_us : us = E0 := congrArg Mq.us e
  have e_hu : hu = false := congrArg Mq.hu e
  have e_pa : pa = E0 := congrArg Mq.pa e
  have e_hp : hp = false := congrArg Mq.hp e
  have e_pres : pres = false := congrArg Mq.pres e
  have e_code : code = 0 := congrArg Mq.code e
  have e_cs : cs = [] := congrArg Mq.cs e
  have e_ws : ws = [] := congrArg Mq.ws e
  have e_fs : fs = [] := congrArg Mq.fs e
  subst e_cl e_clean e_keep e_wI e_wT e_wP e_wQ e_wR e_us e_hu e_pa e_hp e_pres e_code e_cs e_ws e_fs
  exact ⟨hv, rfl⟩
theorem mf_4 {m : Mq} (h : mayG m = true) (hk : m.k = 4) : (idG m.id = true) ∧ m = { zM 4 with id := m.id } := by
  unfold mayG at h
  rw [Bool.and_eq_true] at h
  obtain ⟨hv, hb⟩ := h
  obtain ⟨k, cl, clean, keep, wI, wT, wP, wQ, wR, us, hu, pa, hp, pres, code, cs, dup, q, re, top, id, pay, ws, fs⟩ := m
  dsimp only at hk
  subst hk
  have e := noB_zM hb
  have e_cl : cl = E0 := congrArg Mq.cl e
  have e_clean : clean = false := congrArg Mq.clean e
  have e_keep : keep = 0 := congrArg Mq.keep e
  have e_wI : wI = false := congrArg Mq.wI e
  have e_wT : wT = E0 := congrArg Mq.wT e
  have e_wP : wP = E0 := congrArg Mq.wP e
  have e_wQ : wQ = 0 := congrArg Mq.wQ e
  have e_wR : wR = false := congrArg Mq.wR e
  have e_us : us = E0 := congrArg Mq.us e
  have e_hu : hu = false := congrArg Mq.hu e
  have e_pa : pa = E0 := congrArg Mq.pa e
  have e_hp : hp = false := congrArg Mq.hp e
  have e_pres : pres = false := congrArg Mq.pres e
  have e_code : code = 0 := congrArg Mq.code e
  have e_cs : cs = [] := congrArg Mq.cs e
  have e_dup : dup = false := congrArg Mq.dup e
  have e_q : q = 0 := congrArg Mq.q e
  have e_re : re = false := congrArg Mq.re e
  have e_top : top = E0 := congrArg Mq.top e
  have e_pay : pay = E0 := congrArg Mq.pay e
  have e_ws : ws = [] := congrArg Mq.ws e
  have e_fs : fs = [] := congrArg Mq.fs e
  subst e_cl e_clean e_keep e_wI e_wT e_wP e_wQ e_wR e_us e_hu e_pa e_hp e_pres e_code e_cs e_dup e_q e_re e_top e_pay e_ws e_fs
  exact ⟨hv, rfl⟩
theorem mf_5 {m : Mq} (h : mayG m = true) (hk : m.k = 5) : (idG m.id = true) ∧ m = { zM 5 with id := m.id } := by
  unfold mayG at h
  rw [Bool.and_eq_true] at h
  obtain ⟨hv, hb⟩ := h
  obtain ⟨k, cl, clean, keep, wI, wT, wP, wQ, wR, us, hu, pa, hp, pres, code, cs, dup, q, re, top, id, pay, ws, fs⟩ := m
  dsimp only at hk
  subst hk
  have e := noB_zM hb
  have e_cl : cl = E0 := congrArg Mq.cl e
  have e_clean : clean = false := congrArg Mq.clean e
  have e_keep : keep = 0 := congrArg Mq.keep e
  have e_wI : wI = false := congrArg Mq.wI e
  have e_wT : wT = E0 := congrArg Mq.wT e
  have e_wP : wP = E0 := congrArg Mq.wP e
  have e_wQ : wQ = 0 := congrArg Mq.wQ e
  have e_wR : wR = false := congrArg Mq.wR e
  have e_us : us = E0 := congrArg Mq.us e
  have e_hu : hu = false := congrArg Mq.hu e
  have e_pa : pa = E0 := congrArg Mq.pa e
  have e_hp : hp = false := congrArg Mq.hp e
  have e_pres : pres = false := congrArg Mq.pres e
  have e_code : code = 0 := congrArg Mq.code e
  have e_cs : cs = [] := congrArg Mq.cs e
  have e_dup : dup = false := congrArg Mq.dup e
  have e_q : q = 0 := congrArg Mq.q e
  have e_re : re = false := congrArg Mq.re e
  have e_top : top = E0 := congrArg Mq.top e
  have e_pay : pay = E0 := congrArg Mq.pay e
  have e_ws : ws = [] := congrArg Mq.ws e
  have e_fs : fs = [] := congrArg Mq.fs e
  subst e_cl e_clean e_keep e_wI e_wT e_wP e_wQ e_wR e_us e_hu e_pa e_hp e_pres e_code e_cs e_dup e_q e_re e_top e_pay e_ws e_fs
  exact ⟨hv, rfl⟩
theorem mf_6 {m : Mq} (h : mayG m = true) (hk : m.k = 6) : (idG m.id = true) ∧ m = { zM 6 with id := m.id } := by
  unfold mayG at h
  rw [Bool.and_eq_true] at h
  obtain ⟨hv, hb⟩ := h
  obtain ⟨k, cl, clean, keep, wI, wT, wP, wQ, wR, us, hu, pa, hp, pres, code, cs, dup, q, re, top, id, pay, ws, fs⟩ := m
  dsimp only at hk
  subst hk
  have e := noB_zM hb
  have e_cl : cl = E0 := congrArg Mq.cl e
  have e_clean : clean = false := congrArg Mq.clean e
  have e_keep : keep = 0 := congrArg Mq.keep e
  have e_wI : wI = false := congrArg Mq.wI e
  have e_wT : wT = E0 := congrArg Mq.wT e
  have e_wP : wP = E0 := congrArg Mq.wP e
  have e_wQ : wQ = 0 := congrArg Mq.wQ e
  have e_wR : wR = false := congrArg Mq.wR e
  have e_us : us = E0 := congrArg Mq.us e
  have e_hu : hu = false := congrArg Mq.hu e
  have e_pa : pa = E0 := congrArg Mq.pa e
  have e_hp : hp = false := congrArg Mq.hp e
  have e_pres : pres = false := congrArg Mq.pres e
  have e_code : code = 0 := congrArg Mq.code e
  have e_cs : cs = [] := congrArg Mq.cs e
  have e_dup : dup = false := congrArg Mq.dup e
  have e_q : q = 0 := congrArg Mq.q e
  have e_re : re = false := congrArg Mq.re e
  have e_top : top = E0 := congrArg Mq.top e
  have e_pay : pay = E0 := congrArg Mq.pay e
  have e_ws : ws = [] := congrArg Mq.ws e
  have e_fs : fs = [] := congrArg Mq.fs e
  subst e_cl e_clean e_keep e_wI e_wT e_wP e_wQ e_wR e_us e_hu e_pa e_hp e_pres e_code e_cs e_dup e_q e_re e_top e_pay e_ws e_fs
  exact ⟨hv, rfl⟩
theorem mf_7 {m : Mq} (h : mayG m = true) (hk : m.k = 7) : (idG m.id = true) ∧ m = { zM 7 with id := m.id } := by
  unfold mayG at h
  rw [Bool.and_eq_true] at h
  obtain ⟨hv, hb⟩ := h
  obtain ⟨k, cl, clean, keep, wI, wT, wP, wQ, wR, us, hu, pa, hp, pres, code, cs, dup, q, re, top, id, pay, ws, fs⟩ := m
  dsimp only at hk
  subst hk
  have e := noB_zM hb
  have e_cl : cl = E0 := congrArg Mq.cl e
  have e_clean : clean = false := congrArg Mq.clean e
  have e_keep : keep = 0 := congrArg Mq.keep e
  have e_wI : wI = false := congrArg Mq.wI e
  have e_wT : wT = E0 := congrArg Mq.wT e
  have e_wP : wP = E0 := congrArg Mq.wP e
  have e_wQ : wQ = 0 := congrArg Mq.wQ e
  have e_wR : wR = false := congrArg Mq.wR e
  have e_us : us = E0 := congrArg Mq.us e
  have e_hu : hu = false := congrArg Mq.hu e
  have e_pa : pa = E0 := congrArg Mq.pa e
  have e_hp : hp = false := congrArg Mq.hp e
  have e_pres : pres = false := congrArg Mq.pres e
  have e_code : code = 0 := congrArg Mq.code e
  have e_cs : cs = [] := congrArg Mq.cs e
  have e_dup : dup = false := congrArg Mq.dup e
  have e_q : q = 0 := congrArg Mq.q e
  have e_re : re = false := congrArg Mq.re e
  have e_top : top = E0 := congrArg Mq.top e
  have e_pay : pay = E0 := congrArg Mq.pay e
  have e_ws : ws = [] := congrArg Mq.ws e
  have e_fs : fs = [] := congrArg Mq.fs e
  subst e_cl e_clean e_keep e_wI e_wT e_wP e_wQ e_wR e_us e_hu e_pa e_hp e_pres e_code e_cs e_dup e_q e_re e_top e_pay e_ws e_fs
  exact ⟨hv, rfl⟩
theorem mf_8 {m : Mq} (h : mayG m = true) (hk : m.k = 8) : ((idG m.id && (ctG m.ws.length && wsG m.ws)) = true) ∧ m = { zM 8 with id := m.id, ws := m.ws } := by
  unfold mayG at h
  rw [Bool.and_eq_true] at h
  obtain ⟨hv, hb⟩ := h
  obtain ⟨k, cl, clean, keep, wI, wT, wP, wQ, wR, us, hu, pa, hp, pres, code, cs, dup, q, re, top, id, pay, ws, fs⟩ := m
  dsimp only at hk
  subst hk
  have e := noB_zM hb
  have e_cl : cl = E0 := congrArg Mq.cl e
  have e_clean : clean = false := congrArg Mq.clean e
  have e_keep : keep = 0 := congrArg Mq.keep e
  have e_wI : wI = false := congrArg Mq.wI e
  have e_wT : wT = E0 := congrArg Mq.wT e
  have e_wP : wP = E0 := congrArg Mq.wP e
  have e_wQ : wQ = 0 := congrArg Mq.wQ e
  have e_wR : wR = false := congrArg Mq.wR e
  have e_us : us = E0 := congrArg Mq.us e
  have e_hu : hu = false := congrArg Mq.hu e
  have e_pa : pa = E0 := congrArg Mq.pa e
  have e_hp : hp = false := congrArg Mq.hp e
  have e_pres : pres = false := congrArg Mq.pres e
  have e_code : code = 0 := congrArg Mq.code e
  have e_cs : cs = [] := congrArg Mq.cs e
  have e_dup : dup = false := congrArg Mq.dup e
  have e_q : q = 0 := congrArg Mq.q e
  have e_re : re = false := congrArg Mq.re e
  have e_top : top = E0 := congrArg Mq.top e
  have e_pay : pay = E0 := congrArg Mq.pay e
  have e_fs : fs = [] := congrArg Mq.fs e
  subst e_cl e_clean e_keep e_wI e_wT e_wP e_wQ e_wR e_us e_hu e_pa e_hp e_pres e_code e_cs e_dup e_q e_re e_top e_pay e_fs
  exact ⟨hv, rfl⟩
theorem mf_9 {m : Mq} (h : mayG m = true) (hk : m.k = 9) : ((idG m.id && (ctG m.cs.length && csG m.cs)) = true) ∧ m = { zM 9 with id := m.id, cs := m.cs } := by
  unfold mayG at h
  rw [Bool.and_eq_true] at h
  obtain ⟨hv, hb⟩ := h
  obtain ⟨k, cl, clean, keep, wI, wT, wP, wQ, wR, us, hu, pa, hp, pres, code, cs, dup, q, re, top, id, pay, ws, fs⟩ := m
  dsimp only at hk
  subst hk
  have e := noB_zM hb
  have e_cl : cl = E0 := congrArg Mq.cl e
  have e_clean : clean = false := congrArg Mq.clean e
  have e_keep : keep = 0 := congrArg Mq.keep e
  have e_wI : wI = false := congrArg Mq.wI e
  have e_wT : wT = E0 := congrArg Mq.wT e
  have e_wP : wP = E0 := congrArg Mq.wP e
  have e_wQ : wQ = 0 := congrArg Mq.wQ e
  have e_wR : wR = false := congrArg Mq.wR e
  have e_us : us = E0 := congrArg Mq.us e
  have e_hu : hu = false := congrArg Mq.hu e
  have e_pa : pa = E0 := congrArg Mq.pa e
  have e_hp : hp = false := congrArg Mq.hp e
  have e_pres : pres = false := congrArg Mq.pres e
  have e_code : code = 0 := congrArg Mq.code e
  have e_dup : dup = false := congrArg Mq.dup e
  have e_q : q = 0 := congrArg Mq.q e
  have e_re : re = false := congrArg Mq.re e
  have e_top : top = E0 := congrArg Mq.top e
  have e_pay : pay = E0 := congrArg Mq.pay e
  have e_ws : ws = [] := congrArg Mq.ws e
  have e_fs : fs = [] := congrArg Mq.fs e
  subst e_cl e_clean e_keep e_wI e_wT e_wP e_wQ e_wR e_us e_hu e_pa e_hp e_pres e_code e_dup e_q e_re e_top e_pay e_ws e_fs
  exact ⟨hv, rfl⟩
theorem mf_10 {m : Mq} (h : mayG m = true) (hk : m.k = 10) : ((idG m.id && (ctG m.fs.length && fsG m.fs)) = true) ∧ m = { zM 10 with id := m.id, fs := m.fs } := by
  unfold mayG at h
  rw [Bool.and_eq_true] at h
  obtain ⟨hv, hb⟩ := h
  obtain ⟨k, cl, clean, keep, wI, wT, wP, wQ, wR, us, hu, pa, hp, pres, code, cs, dup, q, re, top, id, pay, ws, fs⟩ := m
  dsimp only at hk
  subst hk
  have e := noB_zM hb
  have e_cl : cl = E0 := congrArg Mq.cl e
  have e_clean : clean = false := congrArg Mq.clean e
  have e_keep : keep = 0 := congrArg Mq.keep e
  have e_wI : wI = false := congrArg Mq.wI e
  have e_wT : wT = E0 := congrArg Mq.wT e
  have e_wP : wP = E0 := congrArg Mq.wP e
  have e_wQ : wQ = 0 := congrArg Mq.wQ e
  have e_wR : wR = false := congrArg Mq.wR e
  have e_us : us = E0 := congrArg Mq.us e
  have e_hu : hu = false := congrArg Mq.hu e
  have e_pa : pa = E0 := congrArg Mq.pa e
  have e_hp : hp = false := congrArg Mq.hp e
  have e_pres : pres = false := congrArg Mq.pres e
  have e_code : code = 0 := congrArg Mq.code e
  have e_cs : cs = [] := congrArg Mq.cs e
  have e_dup : dup = false := congrArg Mq.dup e
  have e_q : q = 0 := congrArg Mq.q e
  have e_re : re = false := congrArg Mq.re e
  have e_top : top = E0 := congrArg Mq.top e
  have e_pay : pay = E0 := congrArg Mq.pay e
  have e_ws : ws = [] := congrArg Mq.ws e
  subst e_cl e_clean e_keep e_wI e_wT e_wP e_wQ e_wR e_us e_hu e_pa e_hp e_pres e_code e_cs e_dup e_q e_re e_top e_pay e_ws
  exact ⟨hv, rfl⟩
theorem mf_11 {m : Mq} (h : mayG m = true) (hk : m.k = 11) : (idG m.id = true) ∧ m = { zM 11 with id := m.id } := by
  unfold mayG at h
  rw [Bool.and_eq_true] at h
  obtain ⟨hv, hb⟩ := h
  obtain ⟨k, cl, clean, keep, wI, wT, wP, wQ, wR, us, hu, pa, hp, pres, code, cs, dup, q, re, top, id, pay, ws, fs⟩ := m
  dsimp only at hk
  subst hk
  have e := noB_zM hb
  have e_cl : cl = E0 := congrArg Mq.cl e
  have e_clean : clean = false := congrArg Mq.clean e
  have e_keep : keep = 0 := congrArg Mq.keep e
  have e_wI : wI = false := congrArg Mq.wI e
  have e_wT : wT = E0 := congrArg Mq.wT e
  have e_wP : wP = E0 := congrArg Mq.wP e
  have e_wQ : wQ = 0 := congrArg Mq.wQ e
  have e_wR : wR = false := congrArg Mq.wR e
  have e_us : us = E0 := congrArg Mq.us e
  have e_hu : hu = false := congrArg Mq.hu e
  have e_pa : pa = E0 := congrArg Mq.pa e
  have e_hp : hp = false := congrArg Mq.hp e
  have e_pres : pres = false := congrArg Mq.pres e
  have e_code : code = 0 := congrArg Mq.code e
  have e_cs : cs = [] := congrArg Mq.cs e
  have e_dup : dup = false := congrArg Mq.dup e
  have e_q : q = 0 := congrArg Mq.q e
  have e_re : re = false := congrArg Mq.re e
  have e_top : top = E0 := congrArg Mq.top e
  have e_pay : pay = E0 := congrArg Mq.pay e
  have e_ws : ws = [] := congrArg Mq.ws e
  have e_fs : fs = [] := congrArg Mq.fs e
  subst e_cl e_clean e_keep e_wI e_wT e_wP e_wQ e_wR e_us e_hu e_pa e_hp e_pres e_code e_cs e_dup e_q e_re e_top e_pay e_ws e_fs
  exact ⟨hv, rfl⟩
theorem mf_12 {m : Mq} (h : mayG m = true) (hk : m.k = 12) : (True) ∧ m = zM 12 := by
  unfold mayG at h
  rw [Bool.and_eq_true] at h
  obtain ⟨hv, hb⟩ := h
  obtain ⟨k, cl, clean, keep, wI, wT, wP, wQ, wR, us, hu, pa, hp, pres, code, cs, dup, q, re, top, id, pay, ws, fs⟩ := m
  dsimp only at hk
  subst hk
  have e := noB_zM hb
  have e_cl : cl = E0 := congrArg Mq.cl e
  have e_clean : clean = false := congrArg Mq.clean e
  have e_keep : keep = 0 := congrArg Mq.keep e
  have e_wI : wI = false := congrArg Mq.wI e
  have e_wT : wT = E0 := congrArg Mq.wT e
  have e_wP : wP = E0 := congrArg Mq.wP e
  have e_wQ : wQ = 0 := congrArg Mq.wQ e
  have e_wR : wR = false := congrArg Mq.wR e
  have e_us : us = E0 := congrArg Mq.us e
  have e_hu : hu = false := congrArg Mq.hu e
  have e_pa : pa = E0 := congrArg Mq.pa e
  have e_hp : hp = false := congrArg Mq.hp e
  have e_pres : pres = false := congrArg Mq.pres e
  have e_code : code = 0 := congrArg Mq.code e
  have e_cs : cs = [] := congrArg Mq.cs e
  have e_dup : dup = false := congrArg Mq.dup e
  have e_q : q = 0 := congrArg Mq.q e
  have e_re : re = false := congrArg Mq.re e
  have e_top : top = E0 := congrArg Mq.top e
  have e_id : id = 0 := congrArg Mq.id e
  have e_pay : pay = E0 := congrArg Mq.pay e
  have e_ws : ws = [] := congrArg Mq.ws e
  have e_fs : fs = [] := congrArg Mq.fs e
  subst e_cl e_clean e_keep e_wI e_wT e_wP e_wQ e_wR e_us e_hu e_pa e_hp e_pres e_code e_cs e_dup e_q e_re e_top e_id e_pay e_ws e_fs
  exact ⟨trivial, rfl⟩
theorem mf_13 {m : Mq} (h : mayG m = true) (hk : m.k = 13) : (True) ∧ m = zM 13 := by
  unfold mayG at h
  rw [Bool.and_eq_true] at h
  obtain ⟨hv, hb⟩ := h
  obtain ⟨k, cl, clean, keep, wI, wT, wP, wQ, wR, us, hu, pa, hp, pres, code, cs, dup, q, re, top, id, pay, ws, fs⟩ := m
  dsimp only at hk
  subst hk
  have e := noB_zM hb
  have e_cl : cl = E0 := congrArg Mq.cl e
  have e_clean : clean = false := congrArg Mq.clean e
  have e_keep : keep = 0 := congrArg Mq.keep e
  have e_wI : wI = false := congrArg Mq.wI e
  have e_wT : wT = E0 := congrArg Mq.wT e
  have e_wP : wP = E0 := congrArg Mq.wP e
  have e_wQ : wQ = 0 := congrArg Mq.wQ e
  have e_wR : wR = false := congrArg Mq.wR e
  have e_us : us = E0 := congrArg Mq.us e
  have e_hu : hu = false := congrArg Mq.hu e
  have e_pa : pa = E0 := congrArg Mq.pa e
  have e_hp : hp = false := congrArg Mq.hp e
  have e_pres : pres = false := congrArg Mq.pres e
  have e_code : code = 0 := congrArg Mq.code e
  have e_cs : cs = [] := congrArg Mq.cs e
  have e_dup : dup = false := congrArg Mq.dup e
  have e_q : q = 0 := congrArg Mq.q e
  have e_re : re = false := congrArg Mq.re e
  have e_top : top = E0 := congrArg Mq.top e
  have e_id : id = 0 := congrArg Mq.id e
  have e_pay : pay = E0 := congrArg Mq.pay e
  have e_ws : ws = [] := congrArg Mq.ws e
  have e_fs : fs = [] := congrArg Mq.fs e
  subst e_cl e_clean e_keep e_wI e_wT e_wP e_wQ e_wR e_us e_hu e_pa e_hp e_pres e_code e_cs e_dup e_q e_re e_top e_id e_pay e_ws e_fs
  exact ⟨trivial, rfl⟩
theorem mf_14 {m : Mq} (h : mayG m = true) (hk : m.k = 14) : (True) ∧ m = zM 14 := by
  unfold mayG at h
  rw [Bool.and_eq_true] at h
  obtain ⟨hv, hb⟩ := h
  obtain ⟨k, cl, clean, keep, wI, wT, wP, wQ, wR, us, hu, pa, hp, pres, code, cs, dup, q, re, top, id, pay, ws, fs⟩ := m
  dsimp only at hk
  subst hk
  have e := noB_zM hb
  have e_cl : cl = E0 := congrArg Mq.cl e
  have e_clean : clean = false := congrArg Mq.clean e
  have e_keep : keep = 0 := congrArg Mq.keep e
  have e_wI : wI = false := congrArg Mq.wI e
  have e_wT : wT = E0 := congrArg Mq.wT e
  have e_wP : wP = E0 := congrArg Mq.wP e
  have e_wQ : wQ = 0 := congrArg Mq.wQ e
  have e_wR : wR = false := congrArg Mq.wR e
  have e_us : us = E0 := congrArg Mq.us e
  have e_hu : hu = false := congrArg Mq.hu e
  have e_pa : pa = E0 := congrArg Mq.pa e
  have e_hp : hp = false := congrArg Mq.hp e
  have e_pres : pres = false := congrArg Mq.pres e
  have e_code : code = 0 := congrArg Mq.code e
  have e_cs : cs = [] := congrArg Mq.cs e
  have e_dup : dup = false := congrArg Mq.dup e
  have e_q : q = 0 := congrArg Mq.q e
  have e_re : re = false := congrArg Mq.re e
  have e_top : top = E0 := congrArg Mq.top e
  have e_id : id = 0 := congrArg Mq.id e
  have e_pay : pay = E0 := congrArg Mq.pay e
  have e_ws : ws = [] := congrArg Mq.ws e
  have e_fs : fs = [] := congrArg Mq.fs e
  subst e_cl e_clean e_keep e_wI e_wT e_wP e_wQ e_wR e_us e_hu e_pa e_hp e_pres e_code e_cs e_dup e_q e_re e_top e_id e_pay e_ws e_fs
  exact ⟨trivial, rfl⟩
theorem may_kind {m : Mq} (h : mayG m = true) : m.k = 1 ∨ m.k = 2 ∨ m.k = 3 ∨ m.k = 4 ∨ m.k = 5 ∨ m.k = 6 ∨ m.k = 7 ∨ m.k = 8 ∨ m.k = 9 ∨ m.k = 10 ∨ m.k = 11 ∨ m.k = 12 ∨ m.k = 13 ∨ m.k = 14 := by
  by_cases h1 : m.k = 1
  · exact .inl h1
  by_cases h2 : m.k = 2
  · exact .inr (.inl h2)
  by_cases h3 : m.k = 3
  · exact .inr (.inr (.inl h3))
  by_cases h4 : m.k = 4
  · exact .inr (.inr (.inr (.inl h4)))
  by_cases h5 : m.k = 5
  · exact .inr (.inr (.inr (.inr (.inl h5))))
  by_cases h6 : m.k = 6
  · exact .inr (.inr (.inr (.inr (.inr (.inl h6)))))
  by_cases h7 : m.k = 7
  · exact .inr (.inr (.inr (.inr (.inr (.inr (.inl h7))))))
  by_cases h8 : m.k = 8
  · exact .inr (.inr (.inr (.inr (.inr (.inr (.inr (.inl h8)))))))
  by_cases h9 : m.k = 9
  · exact .inr (.inr (.inr (.inr (.inr (.inr (.inr (.inr (.inl h9))))))))
  by_cases h10 : m.k = 10
  · exact .inr (.inr (.inr (.inr (.inr (.inr (.inr (.inr (.inr (.inl h10)))))))))
  by_cases h11 : m.k = 11
  · exact .inr (.inr (.inr (.inr (.inr (.inr (.inr (.inr (.inr (.inr (.inl h11))))))))))
  by_cases h12 : m.k = 12
  · exact .inr (.inr (.inr (.inr (.inr (.inr (.inr (.inr (.inr (.inr (.inr (.inl h12)))))))))))
  by_cases h13 : m.k = 13
  · exact .inr (.inr (.inr (.inr (.inr (.inr (.inr (.inr (.inr (.inr (.inr (.inr (.inl h13))))))))))))
  by_cases h14 : m.k = 14
  · exact .inr (.inr (.inr (.inr (.inr (.inr (.inr (.inr (.inr (.inr (.inr (.inr (.inr (h14)))))))))))))
  unfold mayG at h
  rw [Bool.and_eq_true] at h
  have hv := h.1
  have g : ∀ a : Int, m.k ≠ a → (m.k == a) = false := fun a ha => by rw [beq_eq_false_iff_ne]; exact ha
  unfold vaG at hv
  simp [g _ h1, g _ h2, g _ h3, g _ h4, g _ h5, g _ h6, g _ h7, g _ h8, g _ h9, g _ h10, g _ h11, g _ h12, g _ h13, g _ h14] at hv
theorem may_small {m : Mq} (h : mayG m = true) : Small m := by
  rcases may_kind h with hk | hk | hk | hk | hk | hk | hk | hk | hk | hk | hk | hk | hk | hk
  · obtain ⟨hc, e⟩ := mf_1 h hk
    unfold cnG at hc
    simp only [Bool.and_eq_true, Bool.not_eq_true', decide_eq_false_iff_not] at hc
    obtain ⟨⟨c1, c2, c3, c4⟩, ⟨c5, c6⟩, c7, c8, c9⟩ := hc
    have d1 := tx_le (hi := 23) c1
    have d2 := tx_le (hi := 64) c5
    have hw : m.wT.size ≤ 1000 ∧ m.wP.size ≤ 1000 ∧ (0 ≤ m.wQ ∧ m.wQ ≤ 2) := by
      unfold wlG at c4
      split at c4
      · simp only [Bool.and_eq_true, decide_eq_true_eq] at c4
        have := tx_le (hi := 64) c4.1
        exact ⟨by omega, by omega, qs_le c4.2.2⟩
      · simp only [Bool.and_eq_true, beq_iff_eq, isE_size] at c4
        exact ⟨by omega, by omega, by omega⟩
    rw [e]
    exact ⟨(show (1 : Int) ≤ 1 ∧ (1 : Int) ≤ 14 by decide), (show m.cl.size ≤ 1000 by omega), hw.1, hw.2.1, (show m.us.size ≤ 1000 by omega), (show m.pa.size ≤ 1000 by omega), (Nat.zero_le _), (Nat.zero_le _), hw.2.2, (show (0 : Int) ≤ 0 ∧ (0 : Int) ≤ 2 by decide), (Nat.zero_le _), (Nat.zero_le _), (Nat.zero_le _), (fun s hs => (nomatch hs)), (fun s hs => (nomatch hs))⟩
  · rw [(mf_2 h hk).2]
    exact ⟨(show (1 : Int) ≤ 2 ∧ (2 : Int) ≤ 14 by decide), (Nat.zero_le _), (Nat.zero_le _), (Nat.zero_le _), (Nat.zero_le _), (Nat.zero_le _), (Nat.zero_le _), (Nat.zero_le _), (show (0 : Int) ≤ 0 ∧ (0 : Int) ≤ 2 by decide), (show (0 : Int) ≤ 0 ∧ (0 : Int) ≤ 2 by decide), (Nat.zero_le _), (Nat.zero_le _), (Nat.zero_le _), (fun s hs => (nomatch hs)), (fun s hs => (nomatch hs))⟩
  · obtain ⟨hc, e⟩ := mf_3 h hk
    unfold pbG tpG at hc
    simp only [Bool.and_eq_true, Bool.not_eq_true', decide_eq_false_iff_not] at hc
    obtain ⟨⟨c1, -⟩, c2, c3, -⟩ := hc
    have d1 := tx_le (hi := 64) c1
    rw [e]
    exact ⟨(show (1 : Int) ≤ 3 ∧ (3 : Int) ≤ 14 by decide), (Nat.zero_le _), (Nat.zero_le _), (Nat.zero_le _), (Nat.zero_le _), (Nat.zero_le _), (show m.top.size ≤ 1000 by omega), (show m.pay.size ≤ 1000 by omega), (show (0 : Int) ≤ 0 ∧ (0 : Int) ≤ 2 by decide), (qs_le c2), (Nat.zero_le _), (Nat.zero_le _), (Nat.zero_le _), (fun s hs => (nomatch hs)), (fun s hs => (nomatch hs))⟩
  · rw [(mf_4 h hk).2]
    exact ⟨(show (1 : Int) ≤ 4 ∧ (4 : Int) ≤ 14 by decide), (Nat.zero_le _), (Nat.zero_le _), (Nat.zero_le _), (Nat.zero_le _), (Nat.zero_le _), (Nat.zero_le _), (Nat.zero_le _), (show (0 : Int) ≤ 0 ∧ (0 : Int) ≤ 2 by decide), (show (0 : Int) ≤ 0 ∧ (0 : Int) ≤ 2 by decide), (Nat.zero_le _), (Nat.zero_le _), (Nat.zero_le _), (fun s hs => (nomatch hs)), (fun s hs => (nomatch hs))⟩
  · rw [(mf_5 h hk).2]
    exact ⟨(show (1 : Int) ≤ 5 ∧ (5 : Int) ≤ 14 by decide), (Nat.zero_le _), (Nat.zero_le _), (Nat.zero_le _), (Nat.zero_le _), (Nat.zero_le _), (Nat.zero_le _), (Nat.zero_le _), (show (0 : Int) ≤ 0 ∧ (0 : Int) ≤ 2 by decide), (show (0 : Int) ≤ 0 ∧ (0 : Int) ≤ 2 by decide), (Nat.zero_le _), (Nat.zero_le _), (Nat.zero_le _), (fun s hs => (nomatch hs)), (fun s hs => (nomatch hs))⟩
  · rw [(mf_6 h hk).2]
    exact ⟨(show (1 : Int) ≤ 6 ∧ (6 : Int) ≤ 14 by decide), (Nat.zero_le _), (Nat.zero_le _), (Nat.zero_le _), (Nat.zero_le _), (Nat.zero_le _), (Nat.zero_le _), (Nat.zero_le _), (show (0 : Int) ≤ 0 ∧ (0 : Int) ≤ 2 by decide), (show (0 : Int) ≤ 0 ∧ (0 : Int) ≤ 2 by decide), (Nat.zero_le _), (Nat.zero_le _), (Nat.zero_le _), (fun s hs => (nomatch hs)), (fun s hs => (nomatch hs))⟩
  · rw [(mf_7 h hk).2]
    exact ⟨(show (1 : Int) ≤ 7 ∧ (7 : Int) ≤ 14 by decide), (Nat.zero_le _), (Nat.zero_le _), (Nat.zero_le _), (Nat.zero_le _), (Nat.zero_le _), (Nat.zero_le _), (Nat.zero_le _), (show (0 : Int) ≤ 0 ∧ (0 : Int) ≤ 2 by decide), (show (0 : Int) ≤ 0 ∧ (0 : Int) ≤ 2 by decide), (Nat.zero_le _), (Nat.zero_le _), (Nat.zero_le _), (fun s hs => (nomatch hs)), (fun s hs => (nomatch hs))⟩
  · obtain ⟨hc, e⟩ := mf_8 h hk
    simp only [Bool.and_eq_true] at hc
    rw [e]
    exact ⟨(show (1 : Int) ≤ 8 ∧ (8 : Int) ≤ 14 by decide), (Nat.zero_le _), (Nat.zero_le _), (Nat.zero_le _), (Nat.zero_le _), (Nat.zero_le _), (Nat.zero_le _), (Nat.zero_le _), (show (0 : Int) ≤ 0 ∧ (0 : Int) ≤ 2 by decide), (show (0 : Int) ≤ 0 ∧ (0 : Int) ≤ 2 by decide), (Nat.zero_le _), (ct_le hc.2.1).2, (Nat.zero_le _), (fun s hs => by have h2 := List.all_eq_true.1 hc.2.2 s hs; unfold wishG at h2; rw [Bool.and_eq_true] at h2; have := tx_le (hi := 64) h2.1; omega), (fun s hs => (nomatch hs))⟩
  · obtain ⟨hc, e⟩ := mf_9 h hk
    simp only [Bool.and_eq_true] at hc
    rw [e]
    exact ⟨(show (1 : Int) ≤ 9 ∧ (9 : Int) ≤ 14 by decide), (Nat.zero_le _), (Nat.zero_le _), (Nat.zero_le _), (Nat.zero_le _), (Nat.zero_le _), (Nat.zero_le _), (Nat.zero_le _), (show (0 : Int) ≤ 0 ∧ (0 : Int) ≤ 2 by decide), (show (0 : Int) ≤ 0 ∧ (0 : Int) ≤ 2 by decide), (ct_le hc.2.1).2, (Nat.zero_le _), (Nat.zero_le _), (fun s hs => (nomatch hs)), (fun s hs => (nomatch hs))⟩
  · obtain ⟨hc, e⟩ := mf_10 h hk
    simp only [Bool.and_eq_true] at hc
    rw [e]
    exact ⟨(show (1 : Int) ≤ 10 ∧ (10 : Int) ≤ 14 by decide), (Nat.zero_le _), (Nat.zero_le _), (Nat.zero_le _), (Nat.zero_le _), (Nat.zero_le _), (Nat.zero_le _), (Nat.zero_le _), (show (0 : Int) ≤ 0 ∧ (0 : Int) ≤ 2 by decide), (show (0 : Int) ≤ 0 ∧ (0 : Int) ≤ 2 by decide), (Nat.zero_le _), (Nat.zero_le _), (ct_le hc.2.1).2, (fun s hs => (nomatch hs)), (fun s hs => by have h2 := List.all_eq_true.1 hc.2.2 s hs; unfold filtG at h2; have := tx_le (hi := 64) h2; omega)⟩
  · rw [(mf_11 h hk).2]
    exact ⟨(show (1 : Int) ≤ 11 ∧ (11 : Int) ≤ 14 by decide), (Nat.zero_le _), (Nat.zero_le _), (Nat.zero_le _), (Nat.zero_le _), (Nat.zero_le _), (Nat.zero_le _), (Nat.zero_le _), (show (0 : Int) ≤ 0 ∧ (0 : Int) ≤ 2 by decide), (show (0 : Int) ≤ 0 ∧ (0 : Int) ≤ 2 by decide), (Nat.zero_le _), (Nat.zero_le _), (Nat.zero_le _), (fun s hs => (nomatch hs)), (fun s hs => (nomatch hs))⟩
  · rw [(mf_12 h hk).2]
    exact ⟨(show (1 : Int) ≤ 12 ∧ (12 : Int) ≤ 14 by decide), (Nat.zero_le _), (Nat.zero_le _), (Nat.zero_le _), (Nat.zero_le _), (Nat.zero_le _), (Nat.zero_le _), (Nat.zero_le _), (show (0 : Int) ≤ 0 ∧ (0 : Int) ≤ 2 by decide), (show (0 : Int) ≤ 0 ∧ (0 : Int) ≤ 2 by decide), (Nat.zero_le _), (Nat.zero_le _), (Nat.zero_le _), (fun s hs => (nomatch hs)), (fun s hs => (nomatch hs))⟩
  · rw [(mf_13 h hk).2]
    exact ⟨(show (1 : Int) ≤ 13 ∧ (13 : Int) ≤ 14 by decide), (Nat.zero_le _), (Nat.zero_le _), (Nat.zero_le _), (Nat.zero_le _), (Nat.zero_le _), (Nat.zero_le _), (Nat.zero_le _), (show (0 : Int) ≤ 0 ∧ (0 : Int) ≤ 2 by decide), (show (0 : Int) ≤ 0 ∧ (0 : Int) ≤ 2 by decide), (Nat.zero_le _), (Nat.zero_le _), (Nat.zero_le _), (fun s hs => (nomatch hs)), (fun s hs => (nomatch hs))⟩
  · rw [(mf_14 h hk).2]
    exact ⟨(show (1 : Int) ≤ 14 ∧ (14 : Int) ≤ 14 by decide), (Nat.zero_le _), (Nat.zero_le _), (Nat.zero_le _), (Nat.zero_le _), (Nat.zero_le _), (Nat.zero_le _), (Nat.zero_le _), (show (0 : Int) ≤ 0 ∧ (0 : Int) ≤ 2 by decide), (show (0 : Int) ≤ 0 ∧ (0 : Int) ≤ 2 by decide), (Nat.zero_le _), (Nat.zero_le _), (Nat.zero_le _), (fun s hs => (nomatch hs)), (fun s hs => (nomatch hs))⟩
theorem lenB_len : ∀ (k n : Nat), (lenB k n).length ≤ k + 1
  | 0, n => by unfold lenB; exact Nat.le_refl _
  | k + 1, n => by
    unfold lenB
    split
    · simp
    · rw [List.length_cons]; have := lenB_len k (n / 128); omega
theorem lenG_len (n : Nat) : (lenG n).length ≤ 5 := lenB_len 4 n
set_option maxRecDepth 100000 in
set_option maxHeartbeats 4000000 in
theorem bytesNo (m : Mq) (ac aw af : Option Addr) (nc nw nf cc cw cf : Nat) (w : World) (hL : m.Lists w (.slice ac nc cc) (.slice aw nw cw) (.slice af nf cf)) (hF : m.Far) (hT : Tabs w) (hm : mayG m = false) :
    Calls Tryd.prog 24 #[.agg (Mq.row m (.slice ac nc cc) (.slice aw nw cw) (.slice af nf cf)).toArray] w fun e w' => e = .returned (.tuple #[.slice none 0 0, .int .i64 1]) ∧ Below w.heap.size w w' := by
  obtain rfl : nc = m.cs.length := by have := slR_len hL.c; simpa using this
  obtain rfl : nw = m.ws.length := by have := slR_len hL.w; simpa using this
  obtain rfl : nf = m.fs.length := by have := slR_len hL.f; simpa using this
  have hb0 := Below.refl w.heap.size w
  refine fw_en 26 [(0, .agg (Mq.row m (.slice ac m.cs.length cc) (.slice aw m.ws.length cw) (.slice af m.fs.length cf)).toArray)] Tryd.func24 rfl Tryd.ntmps24 rfl ⟨rfl, trivial⟩ ?_
  refine fw_sq (fw_rg rfl (fw_bx rfl (cs := [.int .i64 m.k, .string m.cl, .bool m.clean, .int .i64 m.keep, .bool m.wI, .string m.wT, .string m.wP, .int .i64 m.wQ, .bool m.wR, .string m.us, .bool m.hu, .string m.pa, .bool m.hp, .bool m.pres, .int .i64 m.code, .slice ac m.cs.length cc, .bool m.dup, .int .i64 m.q, .bool m.re, .string m.top, .int .i64 m.id, .string m.pay, .slice aw m.ws.length cw, .slice af m.fs.length cf]) rfl ?_))
  intro q1 W2 g5 s3 r4
  have := Nat.le_trans hb0.size g5
  have b6 := hb0.trans (s3.mono hb0.size)
  iterate 2 refine fw_pu rfl ?_
  refine fw_dt (fw_sq (fw_sq (fw_rg rfl (fw_ld r4 rfl rfl ?_))))
  refine fw_ca Tryd.func26 rfl rfl rfl (by have h := checkG m ac aw af _ _ _ cc cw cf W2 (hL.below b6) hF (hT.below b6); rw [if_neg (by rw [hm]; simp)] at h; exact h) ?_
  rintro _ V8 ⟨rfl, hb7⟩
  refine ⟨(.int .i64 1), rfl, ?_⟩
  have b9 := b6.trans (hb7.mono b6.size)
  have r10 := r4.below hb7
  refine fw_pu rfl (fw_dt (fw_cT rfl rfl (fw_sq (fw_rg rfl ?_))))
  iterate 2 refine fw_pu rfl ?_
  refine fw_dt (fw_rt (fw_tr ?_))
  refine ⟨fun a h => ?_⟩
  exact ow_ret2 rfl h.df (h.g 2 rfl) (h.g 3 rfl) ⟨rfl, b9⟩
set_option maxRecDepth 100000 in
set_option maxHeartbeats 4000000 in
theorem bytesOk (m : Mq) (ac aw af : Option Addr) (nc nw nf cc cw cf : Nat) (w : World) (hL : m.Lists w (.slice ac nc cc) (.slice aw nw cw) (.slice af nf cf)) (hF : m.Far) (hT : Tabs w) (hm : mayG m = true) :
    Calls Tryd.prog 24 #[.agg (Mq.row m (.slice ac nc cc) (.slice aw nw cw) (.slice af nf cf)).toArray] w fun e w' => ∃ l a c, e = .returned (.tuple #[.slice a l.length c, .int .i64 0]) ∧ l = enG m ∧ l.length ≤ 70000 ∧ OB w' w.heap.size a c l ∧ Below w.heap.size w w' := by
  obtain rfl : nc = m.cs.length := by have := slR_len hL.c; simpa using this
  obtain rfl : nw = m.ws.length := by have := slR_len hL.w; simpa using this
  obtain rfl : nf = m.fs.length := by have := slR_len hL.f; simpa using this
  have hb0 := Below.refl w.heap.size w
  have hS := may_small hm
  have hS0 := hS.cl
  have hS1 := hS.wT
  have hS2 := hS.wP
  have hS3 := hS.us
  have hS4 := hS.pa
  have hS5 := hS.top
  have hS6 := hS.pay
  have hS7 := hS.wQ
  have hS8 := hS.q
  have hS9 := hS.k
  have hS10 := hS.cs
  have hS11 := hS.ws
  have hS12 := hS.fs
  refine fw_en 26 [(0, .agg (Mq.row m (.slice ac m.cs.length cc) (.slice aw m.ws.length cw) (.slice af m.fs.length cf)).toArray)] Tryd.func24 rfl Tryd.ntmps24 rfl ⟨rfl, trivial⟩ ?_
  refine fw_sq (fw_rg rfl (fw_bx rfl (cs := [.int .i64 m.k, .string m.cl, .bool m.clean, .int .i64 m.keep, .bool m.wI, .string m.wT, .string m.wP, .int .i64 m.wQ, .bool m.wR, .string m.us, .bool m.hu, .string m.pa, .bool m.hp, .bool m.pres, .int .i64 m.code, .slice ac m.cs.length cc, .bool m.dup, .int .i64 m.q, .bool m.re, .string m.top, .int .i64 m.id, .string m.pay, .slice aw m.ws.length cw, .slice af m.fs.length cf]) rfl ?_))
  intro q1 W2 g5 s3 r4
  have := Nat.le_trans hb0.size g5
  have b6 := hb0.trans (s3.mono hb0.size)
  iterate 2 refine fw_pu rfl ?_
  refine fw_dt (fw_sq (fw_sq (fw_rg rfl (fw_ld r4 rfl rfl ?_))))
  refine fw_ca Tryd.func26 rfl rfl rfl (by have h := checkG m ac aw af _ _ _ cc cw cf W2 (hL.below b6) hF (hT.below b6); rw [if_pos hm] at h; exact h) ?_
  rintro _ V8 ⟨rfl, hb7⟩
  refine ⟨(.int .i64 0), rfl, ?_⟩
  have b9 := b6.trans (hb7.mono b6.size)
  have r10 := r4.below hb7
  refine fw_pu rfl (fw_dt (fw_cF rfl rfl (fw_sk (fw_th (fw_sq (fw_rg rfl (fw_ld r10 rfl rfl (fw_ca Tryd.func50 rfl rfl rfl (bodyOfG m ac aw af _ _ _ cc cw cf V8 (hL.below b9) hS) ?_))))))))
  rintro _ VC ⟨lC, aC, cC, rfl, hlC, hnC, hoC, hbC⟩
  refine ⟨_, rfl, ?_⟩
  replace hoC := own_mono hoC b9.size
  have b11 := b9.trans (hbC.mono b9.size)
  have r12 := r10.below hbC
  refine fw_pu rfl (fw_dt (fw_sq ?_))
  refine fw_hr (fun X => Below w.heap.size w X ∧ RowAt X q1 (Mq.row m (.slice ac m.cs.length cc) (.slice aw m.ws.length cw) (.slice af m.fs.length cf))) (by kernel_rfl) 9 rfl ?_
  intro W13 s14
  have b15 := b11.trans (s14.mono b11.size)
  have r16 := r12.below s14
  have f17 := (below_own hoC s14)
  refine ⟨⟨b15, r16⟩, ?_⟩
  refine fw_tk 0 rfl rfl (by kernel_rfl) (fun _ _ _ _ _ h => h) ?_
  refine fw_tl 1 (fun _ h => h.2) rfl rfl rfl (by kernel_rfl) (fun _ _ _ _ _ h => h) ?_
  refine fw_tx 2 13 (.int .i64 (m.k * 16)) rfl rfl rfl rfl (fun a h W hW => by obtain ⟨b15, r16⟩ := hW; exact (run_binOp (h.ev rfl) (h.ev rfl) (by simp [go_sem]) (shl4 _ (by omega) (by omega) _))) (by kernel_rfl) (fun _ _ _ _ _ h => h) ?_
  refine fw_tl 3 (fun _ h => h.2) rfl rfl rfl (by kernel_rfl) (fun _ _ _ _ _ h => h) ?_
  refine fw_o1 4 (by kernel_rfl) ?_
  refine fw_oc rfl Tryd.func51 rfl rfl rfl ((flagsOfG m ac aw af _ _ _ cc cw cf W13 hS)) ?_
  rintro _ V19 ⟨rfl, hb18⟩
  refine ⟨(.int .i64 (flG m)), rfl, ?_⟩
  have b20 := b15.trans (hb18.mono b15.size)
  have r21 := r16.below hb18
  have f22 := (below_own f17 hb18)
  refine ⟨⟨b20, r21⟩, ?_⟩
  refine fw_tx 5 16 (.int .i64 (bits .or .i64 (m.k * 16) (flG m))) rfl rfl rfl rfl (fun a h W hW => by obtain ⟨b20, r21⟩ := hW; exact (run_binOp (h.ev rfl) (h.ev rfl) (by simp [go_sem]) (orI _ _ _))) (by kernel_rfl) (fun _ _ _ _ _ h => h) ?_
  refine fw_tx 6 17 (B8 (b8I (bits .or .i64 (m.k * 16) (flG m)))) rfl rfl rfl rfl (fun a h W hW => by obtain ⟨b20, r21⟩ := hW; exact (run_convOp (h.ev rfl) (cvI8 _ _))) (by kernel_rfl) (fun _ _ _ _ _ h => h) ?_
  refine fw_o1 7 (by kernel_rfl) ?_
  obtain ⟨B, hB⟩ : ∃ x, x = V19.heap.size := ⟨_, rfl⟩
  have hwB : w.heap.size ≤ B := by rw [hB]; exact b20.size
  have : q1 < B := by rw [hB]; exact r21.2.2
  have hloC : ∀ k, (Value.slice aC lC.length cC).ownBlock = some k → k < B := fun k hk => by rw [hB]; exact (blk_lt f22 hk).2
  refine fw_ot rfl 18 rfl rfl rfl (fun a h => opTo_bs1 rfl (h.ev rfl)) ?_
  rintro _ V23 ⟨l24, a24, c24, rfl, hl24, hbb24, ho24⟩
  have hBs : B ≤ V23.heap.size := by rw [hB]; exact hbb24.size
  rw [← hB] at ho24
  have b25 := b20.trans (hbb24.mono b20.size)
  have r26 := r21.below hbb24
  have f27 := (below_own f22 hbb24)
  have hn24 : l24.length ≤ 1 := by rw [hl24]; exact Nat.le_refl _
  refine ⟨⟨b25, r26⟩, ?_⟩
  refine fw_tk 8 rfl rfl (by kernel_rfl) (fun _ _ _ _ _ h => h) ?_
  refine fw_ht (by kernel_rfl) ?_
  refine fw_sq (fw_rg rfl ?_)
  iterate 3 refine fw_pu rfl ?_
  refine fw_ca Tryd.func52 rfl rfl rfl (lenPut (l := l24) (ad := a24) (c := c24) lC.length (by omega) ho24 (by omega) hBs) ?_
  rintro _ V29 ⟨l28, a28, c28, rfl, hl28, hg28, ho28⟩
  refine ⟨_, rfl, ?_⟩
  have r30 := row_grew r26 hg28 (ob_off ho24 (by omega))
  have b31 := ob_low b25 ho24 hg28 hwB (Nat.le_trans hwB hBs)
  have hBs := Nat.le_trans hBs hg28.1.size
  have f32 := (ob_apart f27 hg28 ho24 hloC)
  have hn28 : l28.length ≤ 10 := by rw [hl28, List.length_append]; first | (have := lenG_len lC.length; omega) | omega
  refine fw_pu rfl (fw_dt (fw_sq (fw_rg rfl ?_)))
  iterate 2 refine fw_pu rfl ?_
  refine fw_to 25 rfl rfl rfl (fun a h => opTo_byt (l := l28) (ad := a28) (c := c28) _ _ rfl (h.ev rfl) ho28 (h.ev rfl) (Sl.of_own f32).1 (by omega) (by omega) hBs) ?_
  rintro _ V34 ⟨l33, a33, c33, rfl, hl33, hg33, ho33⟩
  have r35 := row_grew r30 hg33 (ob_off ho28 (by omega))
  have b36 := ob_low b31 ho28 hg33 hwB (Nat.le_trans hwB hBs)
  have hBs := Nat.le_trans hBs hg33.1.size
  have f37 := (ob_apart f32 hg33 ho28 hloC)
  have hn33 : l33.length ≤ 70000 := by rw [hl33, List.length_append]; first | (have := lenG_len lC.length; omega) | omega
  iterate 2 refine fw_pu rfl ?_
  refine fw_dt (fw_rt ?_)
  refine ⟨fun a h => ?_⟩
  exact ow_ret2 rfl h.df (h.g 2 rfl) (h.g 3 rfl) ⟨_, _, _, rfl, by unfold enG; rw [hl33, hl28, hl24, hlC]; simp, hn33, own_mono ho33 hwB, b36⟩
def fG (x y : Int) : Bool := !(bits .and .i64 x y == 0)
def rdS (l : List UInt8) : ByteArray := ⟨((l.drop 2).take (ofv (l.take 2)).toNat).toArray⟩
def rdR (l : List UInt8) : List UInt8 := (l.drop 2).drop (ofv (l.take 2)).toNat
theorem ofv_big2 (v : Int) (h0 : 0 ≤ v) (h1 : v < 65536) : ofv (bigv v 2) = v := by
  simp [bigv, ofv, byteAt_toNat]; omega
theorem take_big (v : Int) (r : List UInt8) (h0 : 0 ≤ v) (h1 : v < 65536) : ofv ((bigv v 2 ++ r).take 2) = v := by
  rw [List.take_append_of_le_length (by rw [bigv_length]; exact Nat.le_refl _), List.take_of_length_le (by rw [bigv_length]; exact Nat.le_refl _), ofv_big2 v h0 h1]
theorem drop_big (v : Int) (r : List UInt8) : (bigv v 2 ++ r).drop 2 = r := by
  have := List.drop_left' (l₁ := bigv v 2) (l₂ := r) (bigv_length v 2); exact this
theorem rdS_enc (s : ByteArray) (r : List UInt8) (h : s.size < 65536) : rdS (encS s ++ r) = s := by
  have e : encS s ++ r = bigv s.size 2 ++ (s.data.toList ++ r) := by unfold encS; rw [List.append_assoc]
  unfold rdS
  rw [e, take_big _ _ (by omega) (by omega), drop_big, Int.toNat_natCast, List.take_left' (by rw [Array.length_toList]; rfl)]
theorem rdR_enc (s : ByteArray) (r : List UInt8) (h : s.size < 65536) : rdR (encS s ++ r) = r := by
  have e : encS s ++ r = bigv s.size 2 ++ (s.data.toList ++ r) := by unfold encS; rw [List.append_assoc]
  unfold rdR
  rw [e, take_big _ _ (by omega) (by omega), drop_big, Int.toNat_natCast, List.drop_left' (by rw [Array.length_toList]; rfl)]
theorem ofv_one (x : UInt8) (r : List UInt8) : ofv ((x :: r).take 1) = (x.toNat : Int) := by simp [ofv]
def lsW : Nat → List UInt8 → List EWish
  | 0, _ => []
  | _ + 1, [] => []
  | n + 1, x :: t => ⟨rdS (x :: t), ofv ((rdR (x :: t)).take 1)⟩ :: lsW n ((rdR (x :: t)).drop 1)
def lsC : Nat → List UInt8 → List Int
  | 0, _ => []
  | _ + 1, [] => []
  | n + 1, x :: t => (x.toNat : Int) :: lsC n t
def lsF : Nat → List UInt8 → List ByteArray
  | 0, _ => []
  | _ + 1, [] => []
  | n + 1, x :: t => rdS (x :: t) :: lsF n (rdR (x :: t))
theorem lsW_ne (n : Nat) {l : List UInt8} (h : l ≠ []) : lsW (n + 1) l = ⟨rdS l, ofv ((rdR l).take 1)⟩ :: lsW n ((rdR l).drop 1) := by
  match l, h with
  | x :: t, _ => rfl
theorem lsC_ne (n : Nat) {l : List UInt8} (h : l ≠ []) : lsC (n + 1) l = ofv (l.take 1) :: lsC n (l.drop 1) := by
  match l, h with
  | x :: t, _ => rw [ofv_one]; rfl
theorem lsF_ne (n : Nat) {l : List UInt8} (h : l ≠ []) : lsF (n + 1) l = rdS l :: lsF n (rdR l) := by
  match l, h with
  | x :: t, _ => rfl
theorem enc_ne (s : ByteArray) (r : List UInt8) : encS s ++ r ≠ [] := by
  intro h; have := congrArg List.length h; rw [List.length_append, encS_len] at this; simp at this
theorem lsW_enc : ∀ (n : Nat) (L : List EWish), L.length ≤ n → (∀ x ∈ L, x.f.size < 65536 ∧ 0 ≤ x.q ∧ x.q ≤ 255) → lsW n (L.flatMap encW) = L
  | 0, L, h, _ => by rw [List.eq_nil_of_length_eq_zero (Nat.le_zero.1 h)]; rfl
  | n + 1, [], _, _ => rfl
  | n + 1, x :: t, h, hx => by
    obtain ⟨h1, h2, h3⟩ := hx x (List.mem_cons_self ..)
    have e : (x :: t).flatMap encW = encS x.f ++ (b8I x.q :: t.flatMap encW) := by simp [encW]
    rw [e, lsW_ne n (enc_ne _ _), rdS_enc _ _ h1, rdR_enc _ _ h1, ofv_one, b8I_nat, List.drop_one, List.tail_cons, lsW_enc n t (by simpa using h) (fun y hy => hx y (List.mem_cons_of_mem _ hy)), show x.q % 256 = x.q by omega]
theorem lsC_enc : ∀ (n : Nat) (L : List Int), L.length ≤ n → (∀ x ∈ L, 0 ≤ x ∧ x ≤ 255) → lsC n (L.map b8I) = L
  | 0, L, h, _ => by rw [List.eq_nil_of_length_eq_zero (Nat.le_zero.1 h)]; rfl
  | n + 1, [], _, _ => rfl
  | n + 1, x :: t, h, hx => by
    obtain ⟨h2, h3⟩ := hx x (List.mem_cons_self ..)
    show ((b8I x).toNat : Int) :: lsC n (t.map b8I) = _
    rw [b8I_nat, lsC_enc n t (by simpa using h) (fun y hy => hx y (List.mem_cons_of_mem _ hy)), show x % 256 = x by omega]
theorem lsF_enc : ∀ (n : Nat) (L : List ByteArray), L.length ≤ n → (∀ x ∈ L, x.size < 65536) → lsF n (L.flatMap encS) = L
  | 0, L, h, _ => by rw [List.eq_nil_of_length_eq_zero (Nat.le_zero.1 h)]; rfl
  | n + 1, [], _, _ => rfl
  | n + 1, x :: t, h, hx => by
    have h1 := hx x (List.mem_cons_self ..)
    rw [List.flatMap_cons, lsF_ne n (enc_ne _ _), rdS_enc _ _ h1, rdR_enc _ _ h1, lsF_enc n t (by simpa using h) (fun y hy => hx y (List.mem_cons_of_mem _ hy))]
def cnD4 (f : Int) (m : Mq) (l : List UInt8) : Mq := if fG f 64 then { m with hp := true, pa := rdS l } else m
def cnD3 (f : Int) (m : Mq) (l : List UInt8) : Mq := if fG f 128 then cnD4 f { m with hu := true, us := rdS l } (rdR l) else cnD4 f m l
def cnD2 (f : Int) (m : Mq) (l : List UInt8) : Mq := if fG f 4 then cnD3 f { m with wI := true, wT := rdS l, wP := rdS (rdR l), wQ := f / 8 % 4, wR := fG f 32 } (rdR (rdR l)) else cnD3 f m l
def cnD1 (f : Int) (l : List UInt8) : Mq := cnD2 f { zM 1 with clean := fG f 2, keep := ofv (l.take 2), cl := rdS (l.drop 2) } (rdR (l.drop 2))
def mqS : ByteArray := { data := #[77, 81, 84, 84] }
def cnD (l : List UInt8) : Mq :=
  if (rdS l).toList == mqS.toList then (if ofv ((rdR l).take 1) == 4 then cnD1 (ofv (((rdR l).drop 1).take 1)) (((rdR l).drop 1).drop 1) else zM 0) else zM 0
def pbD (f : Int) (l : List UInt8) : Mq :=
  if decide (0 < f / 2 % 4) then { zM 3 with dup := fG f 8, q := f / 2 % 4, re := fG f 1, top := rdS l, id := ofv ((rdR l).take 2), pay := ⟨((rdR l).drop 2).toArray⟩ }
  else { zM 3 with dup := fG f 8, q := f / 2 % 4, re := fG f 1, top := rdS l, pay := ⟨(rdR l).toArray⟩ }
def dcG (f : Int) (l : List UInt8) : Mq :=
  if f / 16 == 1 then cnD l else if f / 16 == 2 then { zM 2 with pres := ofv (l.take 1) == 1, code := ofv ((l.drop 1).take 1) } else if f / 16 == 3 then pbD f l
  else if (f / 16 == 4 || f / 16 == 5 || f / 16 == 6 || f / 16 == 7 || f / 16 == 11) then { zM (f / 16) with id := ofv (l.take 2) }
  else if f / 16 == 8 then { zM 8 with id := ofv (l.take 2), ws := lsW 9 (l.drop 2) } else if f / 16 == 9 then { zM 9 with id := ofv (l.take 2), cs := lsC 9 (l.drop 2) }
  else if f / 16 == 10 then { zM 10 with id := ofv (l.take 2), fs := lsF 9 (l.drop 2) } else zM (f / 16)
theorem cf_all : ∀ (c i r p u : Bool) (n : Fin 3), (fun x : Int => (decide (0 ≤ x ∧ x ≤ 255) && fG x 2 == c && fG x 4 == i && x / 8 % 4 == (n.val : Int) && fG x 32 == r && fG x 64 == p && fG x 128 == u)) (bits .or .i64 (bits .or .i64 (bits .or .i64 (bits .or .i64 (bits .or .i64 (flg c 2) (flg i 4)) ((n.val : Int) * 8)) (flg r 32)) (flg p 64)) (flg u 128)) = true := by decide +kernel
theorem cf_of (m : Mq) (hq : 0 ≤ m.wQ ∧ m.wQ ≤ 2) : (0 ≤ cfG m ∧ cfG m ≤ 255) ∧ fG (cfG m) 2 = m.clean ∧ fG (cfG m) 4 = m.wI ∧ cfG m / 8 % 4 = m.wQ ∧ fG (cfG m) 32 = m.wR ∧ fG (cfG m) 64 = m.hp ∧ fG (cfG m) 128 = m.hu := by
  have h := cf_all m.clean m.wI m.wR m.hp m.hu ⟨m.wQ.toNat, by omega⟩
  have e : ((⟨m.wQ.toNat, by omega⟩ : Fin 3).val : Int) = m.wQ := by simp; omega
  rw [e] at h
  simp only [Bool.and_eq_true, decide_eq_true_eq, beq_iff_eq] at h
  obtain ⟨⟨⟨⟨⟨⟨h1, h2⟩, h3⟩, h4⟩, h5⟩, h6⟩, h7⟩ := h
  exact ⟨h1, h2, h3, h4, h5, h6, h7⟩
theorem fl_all : ∀ (d r : Bool) (n : Fin 3), (fun x : Int => (decide (0 ≤ x ∧ x ≤ 15) && fG x 8 == d && x / 2 % 4 == (n.val : Int) && fG x 1 == r && b8I (bits .or .i64 48 x) == b8I (48 + x)) && fG (48 + x) 8 == d && (48 + x) / 2 % 4 == (n.val : Int) && fG (48 + x) 1 == r) (bits .or .i64 (bits .or .i64 (flg d 8) ((n.val : Int) * 2)) (flg r 1)) = true := by decide +kernel
theorem mq_enc : mqtt = encS mqS := by decide +kernel
theorem take_b1 (x : Int) (r : List UInt8) (h : 0 ≤ x ∧ x ≤ 255) : ofv ((b8I x :: r).take 1) = x := by rw [ofv_one, b8I_nat]; omega
theorem dc_1 {m : Mq} (hm : m = { zM 1 with cl := m.cl, clean := m.clean, keep := m.keep, wI := m.wI, wT := m.wT, wP := m.wP, wQ := m.wQ, wR := m.wR, us := m.us, hu := m.hu, pa := m.pa, hp := m.hp })
    (hk : 0 ≤ m.keep ∧ m.keep < 65536) (hq : 0 ≤ m.wQ ∧ m.wQ ≤ 2) (hs : m.cl.size < 65536 ∧ m.wT.size < 65536 ∧ m.wP.size < 65536 ∧ m.us.size < 65536 ∧ m.pa.size < 65536)
    (hw : m.wI = false → m.wT = E0 ∧ m.wP = E0 ∧ m.wQ = 0 ∧ m.wR = false) (hu : m.hu = false → m.us = E0) (hp : m.hp = false → m.pa = E0) : dcG 16 (bdG m) = m := by
  have hk1 : m.k = 1 := by rw [hm]; rfl
  obtain ⟨c1, c2, c3, c4, c5, c6, c7⟩ := cf_of m hq
  have e : bdG m = encS mqS ++ (4 :: b8I (cfG m) :: (bigv m.keep 2 ++ (encS m.cl ++ ((if m.wI then encS m.wT ++ encS m.wP else []) ++ ((if m.hu then encS m.us else []) ++ (if m.hp then encS m.pa else [])))))) := by
    unfold bdG cbG; rw [hk1, mq_enc]; simp
  have a1 : dcG 16 (bdG m) = cnD (bdG m) := rfl
  rw [a1, e]
  unfold cnD
  rw [rdS_enc _ _ (by decide +kernel), rdR_enc _ _ (by decide +kernel), beq_self_eq_true, if_pos rfl, ofv_one, if_pos (by decide), List.drop_one, List.tail_cons, take_b1 _ _ c1, List.drop_one, List.tail_cons]
  unfold cnD1
  rw [take_big _ _ hk.1 hk.2, drop_big, rdS_enc _ _ hs.1, rdR_enc _ _ hs.1]
  generalize hf : cfG m = f at *
  clear hf e a1 c1
  have end4 : ∀ n : Mq, (m.hp = false → n.hp = false ∧ n.pa = E0) → (cnD4 f n (if m.hp then encS m.pa else []) = { n with hp := m.hp, pa := m.pa }) := by
    intro n hn
    unfold cnD4
    rw [c6]
    cases h : m.hp with
    | true => have := rdS_enc m.pa [] hs.2.2.2.2; rw [List.append_nil] at this; simp [this]
    | false => obtain ⟨h1, h2⟩ := hn h; obtain ⟨k, cl, clean, keep, wI, wT, wP, wQ, wR, us, hu, pa, hp', pres, code, cs, dup, q, re, top, id, pay, ws, fs⟩ := n; simp at h1 h2; subst h1 h2; simp [hp h]
  have end3 : ∀ n : Mq, (n.hp = false ∧ n.pa = E0) → (n.hu = false ∧ n.us = E0) → cnD3 f n ((if m.hu then encS m.us else []) ++ (if m.hp then encS m.pa else [])) = { n with hu := m.hu, us := m.us, hp := m.hp, pa := m.pa } := by
    intro n hn hn2
    unfold cnD3
    rw [c7]
    cases h : m.hu with
    | true => rw [if_pos rfl, if_pos rfl, rdS_enc _ _ hs.2.2.2.1, rdR_enc _ _ hs.2.2.2.1]; exact (end4 { n with hu := true, us := m.us } (fun _ => hn))
    | false => rw [if_neg (by simp), if_neg (by simp), List.nil_append, end4 _ (fun _ => hn)]; obtain ⟨k, cl, clean, keep, wI, wT, wP, wQ, wR, us, hu', pa, hp', pres, code, cs, dup, q, re, top, id, pay, ws, fs⟩ := n; obtain ⟨h1, h2⟩ := hn2; simp at h1 h2; subst h1 h2; simp [hu h]
  unfold cnD2
  rw [c3]
  cases h : m.wI with
  | true =>
    rw [if_pos rfl, if_pos rfl, List.append_assoc, rdS_enc _ _ hs.2.1, rdR_enc _ _ hs.2.1, rdS_enc _ _ hs.2.2.1, rdR_enc _ _ hs.2.2.1, end3 _ ⟨rfl, rfl⟩ ⟨rfl, rfl⟩, c2, c4, c5]
    rw [hm]; simp [zM, h]
  | false =>
    obtain ⟨w1, w2, w3, w4⟩ := hw h
    rw [if_neg (by simp), if_neg (by simp), List.nil_append, end3 _ ⟨rfl, rfl⟩ ⟨rfl, rfl⟩, c2]
    rw [hm]; simp [zM, h, w1, w2, w3, w4]
theorem dc_2 {m : Mq} (hm : m = { zM 2 with pres := m.pres, code := m.code }) (hc : 0 ≤ m.code ∧ m.code ≤ 255) : dcG 32 (bdG m) = m := by
  have hk1 : m.k = 2 := by rw [hm]; rfl
  have e : bdG m = [b8I (flg m.pres 1), b8I m.code] := by unfold bdG; rw [hk1]; rfl
  have a1 : dcG 32 (bdG m) = { zM 2 with pres := ofv ((bdG m).take 1) == 1, code := ofv (((bdG m).drop 1).take 1) } := rfl
  rw [a1, e, take_b1 _ _ (by unfold flg; split <;> omega), List.drop_one, List.tail_cons, take_b1 _ _ hc, show (flg m.pres 1 == 1) = m.pres by unfold flg; cases m.pres <;> rfl]
  exact hm.symm
theorem fl_of (m : Mq) (hk : m.k = 3) (hq : 0 ≤ m.q ∧ m.q ≤ 2) : ∃ x, flG m = x ∧ (0 ≤ x ∧ x ≤ 15) ∧ b8I (bits .or .i64 48 x) = b8I (48 + x) ∧ fG (48 + x) 8 = m.dup ∧ (48 + x) / 2 % 4 = m.q ∧ fG (48 + x) 1 = m.re := by
  have h := fl_all m.dup m.re ⟨m.q.toNat, by omega⟩
  have e : ((⟨m.q.toNat, by omega⟩ : Fin 3).val : Int) = m.q := by simp; omega
  rw [e] at h
  simp only [Bool.and_eq_true, decide_eq_true_eq, beq_iff_eq] at h
  obtain ⟨⟨⟨⟨⟨⟨⟨h1, h2⟩, h3⟩, h4⟩, h5⟩, h6⟩, h7⟩, h8⟩ := h
  refine ⟨_, by unfold flG; rw [hk]; rfl, h1, h5, h6, h7, h8⟩
theorem ba_back (s : ByteArray) : (⟨s.data.toList.toArray⟩ : ByteArray) = s := by simp
theorem dc_3 {m : Mq} (hm : m = { zM 3 with top := m.top, q := m.q, re := m.re, pay := m.pay, dup := m.dup, id := m.id }) (f : Int) (hf : f / 16 = 3) (h1 : fG f 8 = m.dup) (h2 : f / 2 % 4 = m.q) (h3 : fG f 1 = m.re) (_hq : 0 ≤ m.q) (hs : m.top.size < 65536) (hi : 0 ≤ m.id ∧ m.id < 65536) (h0 : m.q = 0 → m.id = 0) : dcG f (bdG m) = m := by
  have hk1 : m.k = 3 := by rw [hm]; rfl
  have e : bdG m = encS m.top ++ ((if decide (0 < m.q) then bigv m.id 2 else []) ++ m.pay.data.toList) := by unfold bdG; rw [hk1]; simp
  have a1 : dcG f (bdG m) = pbD f (bdG m) := by unfold dcG; rw [hf]; rfl
  rw [a1, e]
  unfold pbD
  rw [rdS_enc _ _ hs, rdR_enc _ _ hs, h1, h2, h3]
  by_cases h : 0 < m.q
  · rw [decide_eq_true h, if_pos rfl, if_pos rfl, take_big _ _ hi.1 hi.2, drop_big, ba_back]; exact hm.symm
  · rw [decide_eq_false h, if_neg (by simp), if_neg (by simp), List.nil_append, ba_back]
    have h4 : m.q = 0 := by omega
    rw [hm]; simp [zM, h0 h4]
theorem dc_id {m : Mq} {k : Int} (f : Int) (hf : f / 16 = k) (hk : k = 4 ∨ k = 5 ∨ k = 6 ∨ k = 7 ∨ k = 11) (hm : m = { zM k with id := m.id }) (hi : 0 ≤ m.id ∧ m.id < 65536) : dcG f (bdG m) = m := by
  have hk1 : m.k = k := by rw [hm]; rfl
  have e : bdG m = bigv m.id 2 ++ [] := by
    unfold bdG; rw [hk1, hm]
    rcases hk with rfl | rfl | rfl | rfl | rfl <;> simp [zM]
  have a1 : dcG f (bdG m) = { zM k with id := ofv ((bdG m).take 2) } := by
    unfold dcG; rw [hf]
    rcases hk with rfl | rfl | rfl | rfl | rfl <;> rfl
  rw [a1, e, take_big _ _ hi.1 hi.2]; exact hm.symm
theorem dc_8 {m : Mq} (hm : m = { zM 8 with id := m.id, ws := m.ws }) (hi : 0 ≤ m.id ∧ m.id < 65536) (hl : m.ws.length ≤ 9) (hx : ∀ x ∈ m.ws, x.f.size < 65536 ∧ 0 ≤ x.q ∧ x.q ≤ 255) : dcG 130 (bdG m) = m := by
  have hk1 : m.k = 8 := by rw [hm]; rfl
  have e : bdG m = bigv m.id 2 ++ m.ws.flatMap encW := by unfold bdG; rw [hk1, hm]; simp [zM]
  have a1 : dcG 130 (bdG m) = { zM 8 with id := ofv ((bdG m).take 2), ws := lsW 9 ((bdG m).drop 2) } := rfl
  rw [a1, e, take_big _ _ hi.1 hi.2, drop_big, lsW_enc 9 _ hl hx]; exact hm.symm
theorem dc_9 {m : Mq} (hm : m = { zM 9 with id := m.id, cs := m.cs }) (hi : 0 ≤ m.id ∧ m.id < 65536) (hl : m.cs.length ≤ 9) (hx : ∀ x ∈ m.cs, 0 ≤ x ∧ x ≤ 255) : dcG 144 (bdG m) = m := by
  have hk1 : m.k = 9 := by rw [hm]; rfl
  have e : bdG m = bigv m.id 2 ++ m.cs.map b8I := by unfold bdG; rw [hk1, hm]; simp [zM]
  have a1 : dcG 144 (bdG m) = { zM 9 with id := ofv ((bdG m).take 2), cs := lsC 9 ((bdG m).drop 2) } := rfl
  rw [a1, e, take_big _ _ hi.1 hi.2, drop_big, lsC_enc 9 _ hl hx]; exact hm.symm
theorem dc_10 {m : Mq} (hm : m = { zM 10 with id := m.id, fs := m.fs }) (hi : 0 ≤ m.id ∧ m.id < 65536) (hl : m.fs.length ≤ 9) (hx : ∀ x ∈ m.fs, x.size < 65536) : dcG 162 (bdG m) = m := by
  have hk1 : m.k = 10 := by rw [hm]; rfl
  have e : bdG m = bigv m.id 2 ++ m.fs.flatMap encS := by unfold bdG; rw [hk1, hm]; simp [zM]
  have a1 : dcG 162 (bdG m) = { zM 10 with id := ofv ((bdG m).take 2), fs := lsF 9 ((bdG m).drop 2) } := rfl
  rw [a1, e, take_big _ _ hi.1 hi.2, drop_big, lsF_enc 9 _ hl hx]; exact hm.symm
def tkP (n : Nat) (l : List UInt8) : List UInt8 := if n ≤ l.length then l.take n else List.replicate n 0
def tkR (n : Nat) (l : List UInt8) : List UInt8 := if n ≤ l.length then l.drop n else []
def tX (n : Nat) (b : Bool) (l : List UInt8) : Bool := b || decide (l.length < n)
def rS (l : List UInt8) : ByteArray := ⟨(tkP (ofv (tkP 2 l)).toNat (tkR 2 l)).toArray⟩
def rR (l : List UInt8) : List UInt8 := tkR (ofv (tkP 2 l)).toNat (tkR 2 l)
def rX (b : Bool) (l : List UInt8) : Bool := tX (ofv (tkP 2 l)).toNat (tX 2 b l) (tkR 2 l)
theorem tkP_app {n : Nat} {a : List UInt8} (r : List UInt8) (h : a.length = n) : tkP n (a ++ r) = a := by
  unfold tkP; rw [if_pos (by rw [List.length_append]; omega), List.take_left' h]
theorem tkR_app {n : Nat} {a : List UInt8} (r : List UInt8) (h : a.length = n) : tkR n (a ++ r) = r := by
  unfold tkR; rw [if_pos (by rw [List.length_append]; omega), List.drop_left' h]
theorem tX_app {n : Nat} {a : List UInt8} (b : Bool) (r : List UInt8) (h : a.length = n) : tX n b (a ++ r) = b := by
  unfold tX; rw [decide_eq_false (by rw [List.length_append]; omega), Bool.or_false]
theorem str_n (s : ByteArray) : s.data.toList.length = ((s.size : Nat) : Int).toNat := by rw [Array.length_toList]; rfl
section
variable (s : ByteArray) (r : List UInt8) (h : s.size < 65536)
include h
theorem renc_num : ofv (tkP 2 (encS s ++ r)) = s.size ∧ tkR 2 (encS s ++ r) = s.data.toList ++ r := by
  have e : encS s ++ r = bigv s.size 2 ++ (s.data.toList ++ r) := by unfold encS; rw [List.append_assoc]
  rw [e, tkP_app _ (bigv_length _ _), tkR_app _ (bigv_length _ _), ofv_big2 _ (by omega) (by omega)]
  exact ⟨rfl, rfl⟩
theorem rS_enc : rS (encS s ++ r) = s := by
  obtain ⟨h1, h2⟩ := renc_num s r h
  unfold rS
  rw [h1, h2, tkP_app _ (str_n s)]
theorem rR_enc : rR (encS s ++ r) = r := by
  obtain ⟨h1, h2⟩ := renc_num s r h
  unfold rR
  rw [h1, h2, tkR_app _ (str_n s)]
theorem rX_enc (b : Bool) : rX b (encS s ++ r) = b := by
  obtain ⟨h1, h2⟩ := renc_num s r h
  unfold rX
  rw [h1, h2, tX_app _ _ (str_n s)]
  unfold tX
  rw [decide_eq_false (by rw [List.length_append, encS_len]; omega), Bool.or_false]
end
def rlW : Nat → List UInt8 → Bool → List EWish × Bool
  | 0, _, b => ([], b)
  | _ + 1, [], b => ([], b)
  | n + 1, x :: t, b => (⟨rS (x :: t), ofv (tkP 1 (rR (x :: t)))⟩ :: (rlW n (tkR 1 (rR (x :: t))) (tX 1 (rX b (x :: t)) (rR (x :: t)))).1, (rlW n (tkR 1 (rR (x :: t))) (tX 1 (rX b (x :: t)) (rR (x :: t)))).2)
def rlC : Nat → List UInt8 → Bool → List Int × Bool
  | 0, _, b => ([], b)
  | _ + 1, [], b => ([], b)
  | n + 1, x :: t, b => (ofv (tkP 1 (x :: t)) :: (rlC n (tkR 1 (x :: t)) (tX 1 b (x :: t))).1, (rlC n (tkR 1 (x :: t)) (tX 1 b (x :: t))).2)
def rlF : Nat → List UInt8 → Bool → List ByteArray × Bool
  | 0, _, b => ([], b)
  | _ + 1, [], b => ([], b)
  | n + 1, x :: t, b => (rS (x :: t) :: (rlF n (rR (x :: t)) (rX b (x :: t))).1, (rlF n (rR (x :: t)) (rX b (x :: t))).2)
theorem rlW_ne (n : Nat) (b : Bool) {l : List UInt8} (h : l ≠ []) : rlW (n + 1) l b = (⟨rS l, ofv (tkP 1 (rR l))⟩ :: (rlW n (tkR 1 (rR l)) (tX 1 (rX b l) (rR l))).1, (rlW n (tkR 1 (rR l)) (tX 1 (rX b l) (rR l))).2) := by
  match l, h with
  | x :: t, _ => rfl
theorem rlC_ne (n : Nat) (b : Bool) {l : List UInt8} (h : l ≠ []) : rlC (n + 1) l b = (ofv (tkP 1 l) :: (rlC n (tkR 1 l) (tX 1 b l)).1, (rlC n (tkR 1 l) (tX 1 b l)).2) := by
  match l, h with
  | x :: t, _ => rfl
theorem rlF_ne (n : Nat) (b : Bool) {l : List UInt8} (h : l ≠ []) : rlF (n + 1) l b = (rS l :: (rlF n (rR l) (rX b l)).1, (rlF n (rR l) (rX b l)).2) := by
  match l, h with
  | x :: t, _ => rfl
theorem tkP1 (x : UInt8) (r : List UInt8) : tkP 1 (x :: r) = [x] := tkP_app (a := [x]) r rfl
theorem tkR1 (x : UInt8) (r : List UInt8) : tkR 1 (x :: r) = r := tkR_app (a := [x]) r rfl
theorem tX1 (b : Bool) (x : UInt8) (r : List UInt8) : tX 1 b (x :: r) = b := tX_app (a := [x]) b r rfl
theorem ofv_b (x : Int) (h : 0 ≤ x ∧ x ≤ 255) : ofv [b8I x] = x := by have := take_b1 x [] h; simpa using this
theorem rlW_enc (b : Bool) : ∀ (n : Nat) (L : List EWish), L.length ≤ n → (∀ x ∈ L, x.f.size < 65536 ∧ 0 ≤ x.q ∧ x.q ≤ 255) → rlW n (L.flatMap encW) b = (L, b)
  | 0, L, h, _ => by rw [List.eq_nil_of_length_eq_zero (Nat.le_zero.1 h)]; rfl
  | n + 1, [], _, _ => rfl
  | n + 1, x :: t, h, hx => by
    obtain ⟨h1, h2⟩ := hx x (List.mem_cons_self ..)
    have e : (x :: t).flatMap encW = encS x.f ++ (b8I x.q :: t.flatMap encW) := by simp [encW]
    rw [e, rlW_ne n b (enc_ne _ _), rS_enc _ _ h1, rR_enc _ _ h1, rX_enc _ _ h1, tkP1, tkR1, tX1, ofv_b _ h2, rlW_enc b n t (by simpa using h) (fun y hy => hx y (List.mem_cons_of_mem _ hy))]
theorem rlC_enc (b : Bool) : ∀ (n : Nat) (L : List Int), L.length ≤ n → (∀ x ∈ L, 0 ≤ x ∧ x ≤ 255) → rlC n (L.map b8I) b = (L, b)
  | 0, L, h, _ => by rw [List.eq_nil_of_length_eq_zero (Nat.le_zero.1 h)]; rfl
  | n + 1, [], _, _ => rfl
  | n + 1, x :: t, h, hx => by
    have h2 := hx x (List.mem_cons_self ..)
    rw [List.map_cons, rlC_ne n b (by simp), tkP1, tkR1, tX1, ofv_b _ h2, rlC_enc b n t (by simpa using h) (fun y hy => hx y (List.mem_cons_of_mem _ hy))]
theorem rlF_enc (b : Bool) : ∀ (n : Nat) (L : List ByteArray), L.length ≤ n → (∀ x ∈ L, x.size < 65536) → rlF n (L.flatMap encS) b = (L, b)
  | 0, L, h, _ => by rw [List.eq_nil_of_length_eq_zero (Nat.le_zero.1 h)]; rfl
  | n + 1, [], _, _ => rfl
  | n + 1, x :: t, h, hx => by
    have h1 := hx x (List.mem_cons_self ..)
    rw [List.flatMap_cons, rlF_ne n b (enc_ne _ _), rS_enc _ _ h1, rR_enc _ _ h1, rX_enc _ _ h1, rlF_enc b n t (by simpa using h) (fun y hy => hx y (List.mem_cons_of_mem _ hy))]
def rc4 (f : Int) (m : Mq) (l : List UInt8) (b : Bool) : Mq × Bool := if fG f 64 then ({ m with pa := rS l }, rX b l) else (m, b)
def rc3 (f : Int) (m : Mq) (l : List UInt8) (b : Bool) : Mq × Bool := if fG f 128 then rc4 f { m with us := rS l } (rR l) (rX b l) else rc4 f m l b
def rc2 (f : Int) (m : Mq) (l : List UInt8) (b : Bool) : Mq × Bool := if fG f 4 then rc3 f { m with wI := true, wT := rS l, wP := rS (rR l), wQ := f / 8 % 4, wR := fG f 32 } (rR (rR l)) (rX (rX b l) (rR l)) else rc3 f m l b
def rc1 (f : Int) (l : List UInt8) (b : Bool) : Mq × Bool := rc2 f { zM 1 with keep := ofv (tkP 2 l), clean := fG f 2, hp := fG f 64, hu := fG f 128, cl := rS (tkR 2 l) } (rR (tkR 2 l)) (rX (tX 2 b l) (tkR 2 l))
def rcn (l : List UInt8) : Mq × Bool := rc1 (ofv (tkP 1 (tkR 7 l))) (tkR 1 (tkR 7 l)) (tX 1 (tX 7 false l) (tkR 7 l))
def rpb (f : Int) (l : List UInt8) : Mq × Bool :=
  if decide (0 < f / 2 % 4) then ({ zM 3 with dup := fG f 8, q := f / 2 % 4, re := fG f 1, top := rS l, id := ofv (tkP 2 (rR l)), pay := ⟨(tkR 2 (rR l)).toArray⟩ }, tX 2 (rX false l) (rR l))
  else ({ zM 3 with dup := fG f 8, q := f / 2 % 4, re := fG f 1, top := rS l, pay := ⟨(rR l).toArray⟩ }, rX false l)
def rcG (f : Int) (l : List UInt8) : Mq × Bool :=
  if f / 16 == 1 then rcn l else if f / 16 == 2 then ({ zM 2 with pres := ofv ((tkP 2 l).take 1) == 1, code := ofv ((tkP 2 l).drop 1) }, tX 2 false l) else if f / 16 == 3 then rpb f l
  else if (f / 16 == 12 || f / 16 == 13 || f / 16 == 14) then (zM (f / 16), false)
  else if f / 16 == 8 then ({ zM 8 with id := ofv (tkP 2 l), ws := (rlW 8 (tkR 2 l) (tX 2 false l)).1 }, (rlW 8 (tkR 2 l) (tX 2 false l)).2)
  else if f / 16 == 9 then ({ zM 9 with id := ofv (tkP 2 l), cs := (rlC 8 (tkR 2 l) (tX 2 false l)).1 }, (rlC 8 (tkR 2 l) (tX 2 false l)).2)
  else if f / 16 == 10 then ({ zM 10 with id := ofv (tkP 2 l), fs := (rlF 8 (tkR 2 l) (tX 2 false l)).1 }, (rlF 8 (tkR 2 l) (tX 2 false l)).2)
  else ({ zM (f / 16) with id := ofv (tkP 2 l) }, tX 2 false l)
theorem big_app (n : Int) (r : List UInt8) (h0 : 0 ≤ n) (h1 : n < 65536) (b : Bool) : ofv (tkP 2 (bigv n 2 ++ r)) = n ∧ tkR 2 (bigv n 2 ++ r) = r ∧ tX 2 b (bigv n 2 ++ r) = b :=
  ⟨by rw [tkP_app _ (bigv_length _ _), ofv_big2 _ h0 h1], tkR_app _ (bigv_length _ _), tX_app _ _ (bigv_length _ _)⟩
theorem rc_1 {m : Mq} (hm : m = { zM 1 with cl := m.cl, clean := m.clean, keep := m.keep, wI := m.wI, wT := m.wT, wP := m.wP, wQ := m.wQ, wR := m.wR, us := m.us, hu := m.hu, pa := m.pa, hp := m.hp })
    (hk : 0 ≤ m.keep ∧ m.keep < 65536) (hq : 0 ≤ m.wQ ∧ m.wQ ≤ 2) (hs : m.cl.size < 65536 ∧ m.wT.size < 65536 ∧ m.wP.size < 65536 ∧ m.us.size < 65536 ∧ m.pa.size < 65536)
    (hw : m.wI = false → m.wT = E0 ∧ m.wP = E0 ∧ m.wQ = 0 ∧ m.wR = false) (hu : m.hu = false → m.us = E0) (hp : m.hp = false → m.pa = E0) : rcG 16 (bdG m) = (m, false) := by
  have hk1 : m.k = 1 := by rw [hm]; rfl
  obtain ⟨c1, c2, c3, c4, c5, c6, c7⟩ := cf_of m hq
  have e : bdG m = (mqtt ++ [4]) ++ (b8I (cfG m) :: (bigv m.keep 2 ++ (encS m.cl ++ ((if m.wI then encS m.wT ++ encS m.wP else []) ++ ((if m.hu then encS m.us else []) ++ (if m.hp then encS m.pa else [])))))) := by
    unfold bdG cbG; rw [hk1]; simp
  have a1 : rcG 16 (bdG m) = rcn (bdG m) := rfl
  rw [a1, e]
  unfold rcn
  rw [tkR_app (n := 7) (a := mqtt ++ [4]) _ rfl, tX_app (n := 7) (a := mqtt ++ [4]) _ _ rfl, tkP1, tkR1, tX1, ofv_b _ c1]
  unfold rc1
  obtain ⟨d1, d2, d3⟩ := big_app m.keep (encS m.cl ++ ((if m.wI then encS m.wT ++ encS m.wP else []) ++ ((if m.hu then encS m.us else []) ++ (if m.hp then encS m.pa else [])))) hk.1 hk.2 false
  rw [d1, d2, d3, rS_enc _ _ hs.1, rR_enc _ _ hs.1, rX_enc _ _ hs.1]
  generalize hf : cfG m = f at *
  clear hf e a1 c1 d1 d2 d3
  have end4 : ∀ n : Mq, n.pa = E0 → (rc4 f n (if m.hp then encS m.pa else []) false = ({ n with pa := m.pa }, false)) := by
    intro n hn
    unfold rc4
    rw [c6]
    cases h : m.hp with
    | true => have h1 := rS_enc m.pa [] hs.2.2.2.2; have h2 := rX_enc m.pa [] hs.2.2.2.2 false; rw [List.append_nil] at h1 h2; simp [h1, h2]
    | false => obtain ⟨k, cl, clean, keep, wI, wT, wP, wQ, wR, us, hu, pa, hp', pres, code, cs, dup, q, re, top, id, pay, ws, fs⟩ := n; simp at hn; subst hn; simp [hp h]
  have end3 : ∀ n : Mq, n.pa = E0 → n.us = E0 → rc3 f n ((if m.hu then encS m.us else []) ++ (if m.hp then encS m.pa else [])) false = ({ n with us := m.us, pa := m.pa }, false) := by
    intro n hn hn2
    unfold rc3
    rw [c7]
    cases h : m.hu with
    | true => rw [if_pos rfl, if_pos rfl, rS_enc _ _ hs.2.2.2.1, rR_enc _ _ hs.2.2.2.1, rX_enc _ _ hs.2.2.2.1]; exact (end4 { n with us := m.us } hn)
    | false => rw [if_neg (by simp), if_neg (by simp), List.nil_append, end4 _ hn]; obtain ⟨k, cl, clean, keep, wI, wT, wP, wQ, wR, us, hu', pa, hp', pres, code, cs, dup, q, re, top, id, pay, ws, fs⟩ := n; simp at hn2; subst hn2; simp [hu h]
  unfold rc2
  rw [c3]
  cases h : m.wI with
  | true =>
    rw [if_pos rfl, if_pos rfl, List.append_assoc, rS_enc _ _ hs.2.1, rR_enc _ _ hs.2.1, rX_enc _ _ hs.2.1, rS_enc _ _ hs.2.2.1, rR_enc _ _ hs.2.2.1, rX_enc _ _ hs.2.2.1, end3 _ rfl rfl, c2, c4, c5, c6, c7]
    rw [hm]; simp [zM, h]
  | false =>
    obtain ⟨w1, w2, w3, w4⟩ := hw h
    rw [if_neg (by simp), if_neg (by simp), List.nil_append, end3 _ rfl rfl, c2, c6, c7]
    rw [hm]; simp [zM, h, w1, w2, w3, w4]
theorem rc_2 {m : Mq} (hm : m = { zM 2 with pres := m.pres, code := m.code }) (hc : 0 ≤ m.code ∧ m.code ≤ 255) : rcG 32 (bdG m) = (m, false) := by
  have hk1 : m.k = 2 := by rw [hm]; rfl
  have e : bdG m = [b8I (flg m.pres 1), b8I m.code] ++ [] := by unfold bdG; rw [hk1]; rfl
  have a1 : rcG 32 (bdG m) = ({ zM 2 with pres := ofv ((tkP 2 (bdG m)).take 1) == 1, code := ofv ((tkP 2 (bdG m)).drop 1) }, tX 2 false (bdG m)) := rfl
  rw [a1, e, tkP_app (n := 2) (a := [b8I (flg m.pres 1), b8I m.code]) _ rfl, tX_app (n := 2) (a := [b8I (flg m.pres 1), b8I m.code]) _ _ rfl, take_b1 _ _ (by unfold flg; split <;> omega), List.drop_one, List.tail_cons, ofv_b _ hc, show (flg m.pres 1 == 1) = m.pres by unfold flg; cases m.pres <;> rfl]
  rw [← hm]
theorem rc_3 {m : Mq} (hm : m = { zM 3 with top := m.top, q := m.q, re := m.re, pay := m.pay, dup := m.dup, id := m.id }) (f : Int) (hf : f / 16 = 3) (h1 : fG f 8 = m.dup) (h2 : f / 2 % 4 = m.q) (h3 : fG f 1 = m.re) (_hq : 0 ≤ m.q) (hs : m.top.size < 65536) (hi : 0 ≤ m.id ∧ m.id < 65536) (h0 : m.q = 0 → m.id = 0) : rcG f (bdG m) = (m, false) := by
  have hk1 : m.k = 3 := by rw [hm]; rfl
  have e : bdG m = encS m.top ++ ((if decide (0 < m.q) then bigv m.id 2 else []) ++ m.pay.data.toList) := by unfold bdG; rw [hk1]; simp
  have a1 : rcG f (bdG m) = rpb f (bdG m) := by unfold rcG; rw [hf]; rfl
  rw [a1, e]
  unfold rpb
  rw [rS_enc _ _ hs, rR_enc _ _ hs, rX_enc _ _ hs, h1, h2, h3]
  by_cases h : 0 < m.q
  · obtain ⟨d1, d2, d3⟩ := big_app m.id m.pay.data.toList hi.1 hi.2 false
    rw [decide_eq_true h, if_pos rfl, if_pos rfl, d1, d2, d3, ba_back, ← hm]
  · rw [decide_eq_false h, if_neg (by simp), if_neg (by simp), List.nil_append, ba_back]
    have h4 : m.q = 0 := by omega
    rw [hm]; simp [zM, h0 h4]
theorem rc_id {m : Mq} {k : Int} (f : Int) (hf : f / 16 = k) (hk : k = 4 ∨ k = 5 ∨ k = 6 ∨ k = 7 ∨ k = 11) (hm : m = { zM k with id := m.id }) (hi : 0 ≤ m.id ∧ m.id < 65536) : rcG f (bdG m) = (m, false) := by
  have hk1 : m.k = k := by rw [hm]; rfl
  have e : bdG m = bigv m.id 2 ++ [] := by
    unfold bdG; rw [hk1, hm]
    rcases hk with rfl | rfl | rfl | rfl | rfl <;> simp [zM]
  have a1 : rcG f (bdG m) = ({ zM k with id := ofv (tkP 2 (bdG m)) }, tX 2 false (bdG m)) := by
    unfold rcG; rw [hf]
    rcases hk with rfl | rfl | rfl | rfl | rfl <;> rfl
  obtain ⟨d1, -, d3⟩ := big_app m.id [] hi.1 hi.2 false
  rw [a1, e, d1, d3, ← hm]
theorem rc_8 {m : Mq} (hm : m = { zM 8 with id := m.id, ws := m.ws }) (hi : 0 ≤ m.id ∧ m.id < 65536) (hl : m.ws.length ≤ 8) (hx : ∀ x ∈ m.ws, x.f.size < 65536 ∧ 0 ≤ x.q ∧ x.q ≤ 255) : rcG 130 (bdG m) = (m, false) := by
  have hk1 : m.k = 8 := by rw [hm]; rfl
  have e : bdG m = bigv m.id 2 ++ m.ws.flatMap encW := by unfold bdG; rw [hk1, hm]; simp [zM]
  have a1 : rcG 130 (bdG m) = ({ zM 8 with id := ofv (tkP 2 (bdG m)), ws := (rlW 8 (tkR 2 (bdG m)) (tX 2 false (bdG m))).1 }, (rlW 8 (tkR 2 (bdG m)) (tX 2 false (bdG m))).2) := rfl
  obtain ⟨d1, d2, d3⟩ := big_app m.id (m.ws.flatMap encW) hi.1 hi.2 false
  rw [a1, e, d1, d2, d3, rlW_enc _ 8 _ hl hx, ← hm]
theorem rc_9 {m : Mq} (hm : m = { zM 9 with id := m.id, cs := m.cs }) (hi : 0 ≤ m.id ∧ m.id < 65536) (hl : m.cs.length ≤ 8) (hx : ∀ x ∈ m.cs, 0 ≤ x ∧ x ≤ 255) : rcG 144 (bdG m) = (m, false) := by
  have hk1 : m.k = 9 := by rw [hm]; rfl
  have e : bdG m = bigv m.id 2 ++ m.cs.map b8I := by unfold bdG; rw [hk1, hm]; simp [zM]
  have a1 : rcG 144 (bdG m) = ({ zM 9 with id := ofv (tkP 2 (bdG m)), cs := (rlC 8 (tkR 2 (bdG m)) (tX 2 false (bdG m))).1 }, (rlC 8 (tkR 2 (bdG m)) (tX 2 false (bdG m))).2) := rfl
  obtain ⟨d1, d2, d3⟩ := big_app m.id (m.cs.map b8I) hi.1 hi.2 false
  rw [a1, e, d1, d2, d3, rlC_enc _ 8 _ hl hx, ← hm]
theorem rc_10 {m : Mq} (hm : m = { zM 10 with id := m.id, fs := m.fs }) (hi : 0 ≤ m.id ∧ m.id < 65536) (hl : m.fs.length ≤ 8) (hx : ∀ x ∈ m.fs, x.size < 65536) : rcG 162 (bdG m) = (m, false) := by
  have hk1 : m.k = 10 := by rw [hm]; rfl
  have e : bdG m = bigv m.id 2 ++ m.fs.flatMap encS := by unfold bdG; rw [hk1, hm]; simp [zM]
  have a1 : rcG 162 (bdG m) = ({ zM 10 with id := ofv (tkP 2 (bdG m)), fs := (rlF 8 (tkR 2 (bdG m)) (tX 2 false (bdG m))).1 }, (rlF 8 (tkR 2 (bdG m)) (tX 2 false (bdG m))).2) := rfl
  obtain ⟨d1, d2, d3⟩ := big_app m.id (m.fs.flatMap encS) hi.1 hi.2 false
  rw [a1, e, d1, d2, d3, rlF_enc _ 8 _ hl hx, ← hm]
theorem b8_lit (k : Int) (h : 0 ≤ k ∧ k ≤ 255) : ((b8I k).toNat : Int) = k := by rw [b8I_nat]; omega
def hdG (m : Mq) : UInt8 := b8I (bits .or .i64 (m.k * 16) (flG m))
theorem or0 : bits .or .i64 16 0 = 16 ∧ bits .or .i64 32 0 = 32 ∧ bits .or .i64 64 0 = 64 ∧ bits .or .i64 80 0 = 80 ∧ bits .or .i64 96 2 = 98 ∧ bits .or .i64 112 0 = 112 ∧ bits .or .i64 128 2 = 130 ∧ bits .or .i64 144 0 = 144 ∧ bits .or .i64 160 2 = 162 ∧ bits .or .i64 176 0 = 176 ∧ bits .or .i64 192 0 = 192 ∧ bits .or .i64 208 0 = 208 ∧ bits .or .i64 224 0 = 224 := by decide +kernel
theorem hd_of {m : Mq} {k f x : Int} (hk : m.k = k) (hf : flG m = f) (hx : bits .or .i64 (k * 16) f = x) (h : 0 ≤ x ∧ x ≤ 255) : ((hdG m).toNat : Int) = x := by
  unfold hdG; rw [hk, hf, hx, b8_lit x h]
theorem fl_k {m : Mq} {k : Int} (hk : m.k = k) (h3 : (k == 3) = false) : flG m = if (k == 6 || k == 8 || k == 10) then 2 else 0 := by unfold flG; rw [hk, if_neg (by rw [h3]; simp)]
theorem cn_parts {m : Mq} (hc : cnG m = true) : (0 ≤ m.keep ∧ m.keep < 65536) ∧ (0 ≤ m.wQ ∧ m.wQ ≤ 2) ∧ (m.cl.size < 65536 ∧ m.wT.size < 65536 ∧ m.wP.size < 65536 ∧ m.us.size < 65536 ∧ m.pa.size < 65536) ∧ (m.wI = false → m.wT = E0 ∧ m.wP = E0 ∧ m.wQ = 0 ∧ m.wR = false) ∧ (m.hu = false → m.us = E0) ∧ (m.hp = false → m.pa = E0) := by
  have hE : (ByteArray.empty) = E0 := rfl
  unfold cnG at hc
  simp only [Bool.and_eq_true, Bool.not_eq_true', decide_eq_false_iff_not] at hc
  obtain ⟨⟨c1, c2, c3, c4⟩, ⟨c5, c6⟩, c7, c8, c9⟩ := hc
  have d1 := tx_le (hi := 23) c1
  have d2 := tx_le (hi := 64) c5
  have hw : m.wT.size ≤ 1000 ∧ m.wP.size ≤ 1000 ∧ (0 ≤ m.wQ ∧ m.wQ ≤ 2) ∧ (m.wI = false → m.wT = E0 ∧ m.wP = E0 ∧ m.wQ = 0 ∧ m.wR = false) := by
    unfold wlG at c4
    split at c4
    · rename_i hi
      simp only [Bool.and_eq_true, decide_eq_true_eq] at c4
      have := tx_le (hi := 64) c4.1
      exact ⟨by omega, by omega, qs_le c4.2.2, fun h => by rw [hi] at h; cases h⟩
    · simp only [Bool.and_eq_true, beq_iff_eq, isE_iff, Bool.not_eq_true'] at c4
      obtain ⟨⟨⟨e1, e2⟩, e3⟩, e4⟩ := c4
      refine ⟨?_, ?_, by omega, fun _ => ⟨e1.trans hE, e2.trans hE, e3, e4⟩⟩
      · rw [e1]; decide
      · rw [e2]; decide
  refine ⟨by omega, hw.2.2.1, ⟨by omega, by omega, by omega, by omega, by omega⟩, hw.2.2.2, fun h => ?_, fun h => ?_⟩
  · rw [h, Bool.false_or] at c6; exact ((isE_iff _).1 c6).trans hE
  · rw [h, Bool.false_or] at c8; exact ((isE_iff _).1 c8).trans hE
theorem pb_parts {m : Mq} (hc : pbG m = true) : (0 ≤ m.q ∧ m.q ≤ 2) ∧ m.top.size < 65536 ∧ (0 ≤ m.id ∧ m.id < 65536) ∧ (m.q = 0 → m.id = 0) := by
  unfold pbG tpG at hc
  simp only [Bool.and_eq_true, Bool.not_eq_true', decide_eq_false_iff_not] at hc
  obtain ⟨⟨c1, -⟩, c2, c3, c4⟩ := hc
  have d1 := tx_le (hi := 64) c1
  have d2 := qs_le c2
  split at c4
  · rename_i h
    simp only [Bool.and_eq_true, beq_iff_eq] at c4
    exact ⟨d2, by omega, by omega, fun _ => c4.2⟩
  · rename_i h
    have := id_le c4
    exact ⟨d2, by omega, by omega, fun h0 => absurd (beq_iff_eq.2 h0) h⟩
theorem dc_en {m : Mq} (h : mayG m = true) : dcG ((hdG m).toNat : Int) (bdG m) = m ∧ rcG ((hdG m).toNat : Int) (bdG m) = (m, false) := by
  obtain ⟨o1, o2, o4, o5, o6, o7, o8, o9, o10, o11, o12, o13, o14⟩ := or0
  rcases may_kind h with hk | hk | hk | hk | hk | hk | hk | hk | hk | hk | hk | hk | hk | hk
  · obtain ⟨hc, e⟩ := mf_1 h hk
    obtain ⟨p1, p2, p3, p4, p5, p6⟩ := cn_parts hc
    rw [hd_of hk (fl_k hk rfl) o1 (by decide)]
    exact ⟨dc_1 e p1 p2 p3 p4 p5 p6, rc_1 e p1 p2 p3 p4 p5 p6⟩
  · obtain ⟨hc, e⟩ := mf_2 h hk
    simp only [Bool.and_eq_true, decide_eq_true_eq] at hc
    rw [hd_of hk (fl_k hk rfl) o2 (by decide)]
    exact ⟨dc_2 e (by omega), rc_2 e (by omega)⟩
  · obtain ⟨hc, e⟩ := mf_3 h hk
    obtain ⟨p1, p2, p3, p4⟩ := pb_parts hc
    obtain ⟨x, g0, g1, g2, g3, g4, g5⟩ := fl_of m hk p1
    have hx : ((hdG m).toNat : Int) = 48 + x := by unfold hdG; rw [hk, g0]; show ((b8I (bits .or .i64 48 x)).toNat : Int) = _; rw [g2, b8_lit _ (by omega)]
    rw [hx]
    exact ⟨dc_3 e _ (by omega) g3 g4 g5 p1.1 p2 p3 p4, rc_3 e _ (by omega) g3 g4 g5 p1.1 p2 p3 p4⟩
  · obtain ⟨hc, e⟩ := mf_4 h hk
    have := id_le hc
    rw [hd_of hk (fl_k hk rfl) o4 (by decide)]
    exact ⟨dc_id 64 rfl (by simp) e (by omega), rc_id 64 rfl (by simp) e (by omega)⟩
  · obtain ⟨hc, e⟩ := mf_5 h hk
    have := id_le hc
    rw [hd_of hk (fl_k hk rfl) o5 (by decide)]
    exact ⟨dc_id 80 rfl (by simp) e (by omega), rc_id 80 rfl (by simp) e (by omega)⟩
  · obtain ⟨hc, e⟩ := mf_6 h hk
    have := id_le hc
    rw [hd_of hk (fl_k hk rfl) o6 (by decide)]
    exact ⟨dc_id 98 rfl (by simp) e (by omega), rc_id 98 rfl (by simp) e (by omega)⟩
  · obtain ⟨hc, e⟩ := mf_7 h hk
    have := id_le hc
    rw [hd_of hk (fl_k hk rfl) o7 (by decide)]
    exact ⟨dc_id 112 rfl (by simp) e (by omega), rc_id 112 rfl (by simp) e (by omega)⟩
  · obtain ⟨hc, e⟩ := mf_8 h hk
    simp only [Bool.and_eq_true] at hc
    have h1 := id_le hc.1
    have h2 := ct_le hc.2.1
    have h3 : ∀ x ∈ m.ws, x.f.size < 65536 ∧ 0 ≤ x.q ∧ x.q ≤ 255 := fun x hx => by
      have h4 := List.all_eq_true.1 hc.2.2 x hx; unfold wishG at h4; rw [Bool.and_eq_true] at h4
      have h5 := tx_le (hi := 64) h4.1; have h6 := qs_le h4.2; exact ⟨by omega, by omega, by omega⟩
    rw [hd_of hk (fl_k hk rfl) o8 (by decide)]
    exact ⟨dc_8 e (by omega) (by omega) h3, rc_8 e (by omega) h2.2 h3⟩
  · obtain ⟨hc, e⟩ := mf_9 h hk
    simp only [Bool.and_eq_true] at hc
    have h1 := id_le hc.1
    have h2 := ct_le hc.2.1
    have h3 : ∀ x ∈ m.cs, 0 ≤ x ∧ x ≤ 255 := fun x hx => by
      have h4 := List.all_eq_true.1 hc.2.2 x hx; unfold codeG at h4; rw [Bool.or_eq_true, beq_iff_eq] at h4
      rcases h4 with h4 | h4
      · have h6 := qs_le h4; omega
      · omega
    rw [hd_of hk (fl_k hk rfl) o9 (by decide)]
    exact ⟨dc_9 e (by omega) (by omega) h3, rc_9 e (by omega) h2.2 h3⟩
  · obtain ⟨hc, e⟩ := mf_10 h hk
    simp only [Bool.and_eq_true] at hc
    have h1 := id_le hc.1
    have h2 := ct_le hc.2.1
    have h3 : ∀ x ∈ m.fs, x.size < 65536 := fun x hx => by
      have h4 := List.all_eq_true.1 hc.2.2 x hx; unfold filtG at h4
      have h5 := tx_le (hi := 64) h4; omega
    rw [hd_of hk (fl_k hk rfl) o10 (by decide)]
    exact ⟨dc_10 e (by omega) (by omega) h3, rc_10 e (by omega) h2.2 h3⟩
  · obtain ⟨hc, e⟩ := mf_11 h hk
    have := id_le hc
    rw [hd_of hk (fl_k hk rfl) o11 (by decide)]
    exact ⟨dc_id 176 rfl (by simp) e (by omega), rc_id 176 rfl (by simp) e (by omega)⟩
  · obtain ⟨-, e⟩ := mf_12 h hk
    rw [hd_of hk (fl_k hk rfl) o12 (by decide), e]
    exact ⟨rfl, rfl⟩
  · obtain ⟨-, e⟩ := mf_13 h hk
    rw [hd_of hk (fl_k hk rfl) o13 (by decide), e]
    exact ⟨rfl, rfl⟩
  · obtain ⟨-, e⟩ := mf_14 h hk
    rw [hd_of hk (fl_k hk rfl) o14 (by decide), e]
    exact ⟨rfl, rfl⟩
def msG (k acc : Nat) : List UInt8 → Nat × Nat × Int
  | [] => (0, 0, 7)
  | x :: t => if x.toNat < 128 then (if 0 < x.toNat ∨ k = 0 then (k + 2, acc + x.toNat * 128 ^ k, 0) else (0, 0, 1)) else if k = 3 then (0, 0, 1) else msG (k + 1) (acc + (x.toNat - 128) * 128 ^ k) t
theorem ms_len : ∀ (j k acc n : Nat) (r : List UInt8), j + 1 + k ≤ 4 → n < 128 ^ (j + 1) → (0 < n ∨ k = 0) → msG k acc (lenG n ++ r) = (k + 1 + (lenG n).length, acc + n * 128 ^ k, 0) := by
  have small : ∀ (k acc n : Nat) (r : List UInt8), n < 128 → (0 < n ∨ k = 0) → msG k acc (lenG n ++ r) = (k + 1 + (lenG n).length, acc + n * 128 ^ k, 0) := by
    intro k acc n r h h0
    rw [lenG_small h]
    have e : (UInt8.ofNat n).toNat = n := by simp only [UInt8.toNat_ofNat']; omega
    show msG k acc (UInt8.ofNat n :: r) = _
    unfold msG
    rw [e, if_pos h, if_pos h0]; rfl
  intro j
  induction j with
  | zero => intro k acc n r h1 h2 h3; exact small k acc n r (by simpa using h2) h3
  | succ j ih =>
    intro k acc n r h1 h2 h3
    by_cases h : n < 128
    · exact small k acc n r h h3
    · have hb : n < 268435456 := by
        have : (128 : Nat) ^ (j + 1 + 1) ≤ 128 ^ 4 := Nat.pow_le_pow_right (by decide) (by omega)
        omega
      rw [lenG_step (by omega) hb]
      have e : (UInt8.ofNat (n % 128 + 128)).toNat = n % 128 + 128 := by simp only [UInt8.toNat_ofNat']; omega
      show msG k acc (UInt8.ofNat (n % 128 + 128) :: (lenG (n / 128) ++ r)) = _
      rw [msG, e, if_neg (by omega), if_neg (by omega), ih (k + 1) _ (n / 128) r (by omega) (by rw [Nat.div_lt_iff_lt_mul (by decide)]; rwa [Nat.pow_succ] at h2) (by omega)]
      have e2 : acc + (n % 128 + 128 - 128) * 128 ^ k + n / 128 * 128 ^ (k + 1) = acc + n * 128 ^ k := by
        rw [Nat.pow_succ, Nat.add_sub_cancel, Nat.add_assoc, Nat.mul_comm (128 ^ k) 128, ← Nat.mul_assoc, ← Nat.add_mul]
        have := Nat.mod_add_div n 128
        rw [show n % 128 + n / 128 * 128 = n by omega]
      rw [e2]; simp; omega
def ckG (d : Mq) (ok : Bool) (x : List UInt8) : Mq × Nat × Int := if (ok && (mayG d && (enG d == x))) = true then (d, x.length, 0) else (zM 0, 0, 1)
def cutG (d : Int → List UInt8 → Mq × Bool) (l : List UInt8) (h n : Nat) : Mq × Nat × Int := match l with
  | [] => (zM 0, 0, 7)
  | x :: t => if 1024 < h + n then (zM 0, 0, 2) else if (x :: t).length < h + n then (zM 0, 0, 7) else ckG (d (x.toNat : Int) (((x :: t).take (h + n)).drop h)).1 (!(d (x.toNat : Int) (((x :: t).take (h + n)).drop h)).2) ((x :: t).take (h + n))
def parG (d : Int → List UInt8 → Mq × Bool) (l : List UInt8) : Mq × Nat × Int := match l with
  | [] => (zM 0, 0, 7)
  | x :: t => if (msG 0 0 t).2.2 = 0 then cutG d (x :: t) (msG 0 0 t).1 (msG 0 0 t).2.1 else (zM 0, 0, (msG 0 0 t).2.2)
def paG (l : List UInt8) : Mq × Nat × Int := parG (fun f b => (dcG f b, false)) l
def rpG (l : List UInt8) : Mq × Nat × Int := parG rcG l
theorem en_eq (m : Mq) : enG m = hdG m :: (lenG (bdG m).length ++ bdG m) := rfl
theorem read_en {m : Mq} (hm : mayG m = true) (hl : (bdG m).length < 268435456) {x : UInt8} {t : List UInt8} {h n : Nat} (hs : msG 0 0 t = (h, n, 0)) (he : enG m = (x :: t).take (h + n)) :
    dcG (x.toNat : Int) (((x :: t).take (h + n)).drop h) = m ∧ rcG (x.toNat : Int) (((x :: t).take (h + n)).drop h) = (m, false) := by
  rw [← he, en_eq]
  have hx : x = hdG m ∧ ∃ r, t = lenG (bdG m).length ++ (bdG m ++ r) := by
    have hne : h + n ≠ 0 := by intro h0; rw [h0, List.take_zero, en_eq] at he; cases he
    obtain ⟨j, hj⟩ := Nat.exists_eq_succ_of_ne_zero hne
    rw [hj, List.take_succ_cons, en_eq] at he
    injection he with h1 h2
    refine ⟨h1.symm, t.drop j, ?_⟩
    rw [← List.append_assoc, h2, List.take_append_drop]
  obtain ⟨rfl, r, rfl⟩ := hx
  rw [ms_len 3 0 0 _ _ (by omega) (by omega) (.inr rfl)] at hs
  injection hs with h1 h2
  have e : (hdG m :: (lenG (bdG m).length ++ bdG m)).drop h = bdG m := by
    rw [← h1, show 0 + 1 + (lenG (bdG m).length).length = (lenG (bdG m).length).length + 1 by omega, List.drop_succ_cons, List.drop_left']
    rfl
  rw [e]
  exact dc_en hm
theorem fm_le {α : Type} {f : α → List UInt8} {B : Nat} : ∀ {L : List α}, (∀ x ∈ L, (f x).length ≤ B) → (L.flatMap f).length ≤ L.length * B
  | [], _ => by simp
  | x :: t, h => by
    have h1 := h x (List.mem_cons_self ..)
    have h2 := fm_le (L := t) (fun y hy => h y (List.mem_cons_of_mem _ hy))
    rw [List.flatMap_cons, List.length_append, List.length_cons, Nat.succ_mul]; omega
theorem bd_le {m : Mq} (h : mayG m = true) : (bdG m).length ≤ 600 := by
  rcases may_kind h with hk | hk | hk | hk | hk | hk | hk | hk | hk | hk | hk | hk | hk | hk
  · obtain ⟨hc, -⟩ := mf_1 h hk
    have e : bdG m = cbG m := by unfold bdG; rw [hk]; rfl
    unfold cnG at hc
    simp only [Bool.and_eq_true, Bool.not_eq_true', decide_eq_false_iff_not] at hc
    obtain ⟨⟨c1, c2, c3, c4⟩, ⟨c5, c6⟩, c7, c8, c9⟩ := hc
    have d1 := tx_le (hi := 23) c1
    have d2 := tx_le (hi := 64) c5
    have hw : m.wI = true → m.wT.size ≤ 64 ∧ m.wP.size ≤ 128 := fun hi => by
      unfold wlG at c4
      rw [if_pos hi] at c4
      simp only [Bool.and_eq_true, decide_eq_true_eq] at c4
      have := tx_le (hi := 64) c4.1
      exact ⟨by omega, by omega⟩
    have g1 : (if m.wI then encS m.wT ++ encS m.wP else []).length ≤ 196 := by
      split
      · rename_i hi; have := hw hi; rw [List.length_append, encS_len, encS_len]; omega
      · simp
    have g2 : (if m.hu then encS m.us else []).length ≤ 66 := by split <;> simp [encS_len] <;> omega
    have g3 : (if m.hp then encS m.pa else []).length ≤ 66 := by split <;> simp [encS_len] <;> omega
    rw [e]; unfold cbG
    simp only [List.length_append, encS_len, bigv_length, show mqtt.length = 6 from rfl, List.length_cons, List.length_nil] at g1 g2 g3 ⊢
    omega
  · have e : bdG m = [b8I (flg m.pres 1), b8I m.code] := by unfold bdG; rw [hk]; rfl
    rw [e]; simp
  · obtain ⟨hc, -⟩ := mf_3 h hk
    have e : bdG m = encS m.top ++ ((if decide (0 < m.q) then bigv m.id 2 else []) ++ m.pay.data.toList) := by unfold bdG; rw [hk]; simp
    unfold pbG tpG at hc
    simp only [Bool.and_eq_true, Bool.not_eq_true', decide_eq_false_iff_not] at hc
    obtain ⟨⟨c1, -⟩, c2, c3, c4⟩ := hc
    have d1 := tx_le (hi := 64) c1
    have g1 : (if decide (0 < m.q) then bigv m.id 2 else []).length ≤ 2 := by split <;> simp [bigv_length]
    have g2 : m.pay.data.toList.length = m.pay.size := Array.length_toList
    rw [e, List.length_append, List.length_append, encS_len, g2]; omega
  · have e : bdG m = bigv m.id 2 := by unfold bdG; rw [(mf_4 h hk).2]; simp [zM]
    rw [e, bigv_length]; omega
  · have e : bdG m = bigv m.id 2 := by unfold bdG; rw [(mf_5 h hk).2]; simp [zM]
    rw [e, bigv_length]; omega
  · have e : bdG m = bigv m.id 2 := by unfold bdG; rw [(mf_6 h hk).2]; simp [zM]
    rw [e, bigv_length]; omega
  · have e : bdG m = bigv m.id 2 := by unfold bdG; rw [(mf_7 h hk).2]; simp [zM]
    rw [e, bigv_length]; omega
  · obtain ⟨hc, e0⟩ := mf_8 h hk
    have e : bdG m = bigv m.id 2 ++ m.ws.flatMap encW := by unfold bdG; rw [e0]; simp [zM]
    simp only [Bool.and_eq_true] at hc
    have h2 := ct_le hc.2.1
    have h3 := fm_le (f := encW) (B := 67) (L := m.ws) (fun x hx => by
      have h4 := List.all_eq_true.1 hc.2.2 x hx; unfold wishG at h4; rw [Bool.and_eq_true] at h4
      have h5 := tx_le (hi := 64) h4.1; unfold encW; rw [List.length_append, encS_len]; simp; omega)
    rw [e, List.length_append, bigv_length]; have := Nat.mul_le_mul_right 67 h2.2; omega
  · obtain ⟨hc, e0⟩ := mf_9 h hk
    have e : bdG m = bigv m.id 2 ++ m.cs.map b8I := by unfold bdG; rw [e0]; simp [zM]
    simp only [Bool.and_eq_true] at hc
    have h2 := ct_le hc.2.1
    rw [e, List.length_append, bigv_length, List.length_map]; omega
  · obtain ⟨hc, e0⟩ := mf_10 h hk
    have e : bdG m = bigv m.id 2 ++ m.fs.flatMap encS := by unfold bdG; rw [e0]; simp [zM]
    simp only [Bool.and_eq_true] at hc
    have h2 := ct_le hc.2.1
    have h3 := fm_le (f := encS) (B := 66) (L := m.fs) (fun x hx => by
      have h4 := List.all_eq_true.1 hc.2.2 x hx; unfold filtG at h4
      have h5 := tx_le (hi := 64) h4; rw [encS_len]; omega)
    rw [e, List.length_append, bigv_length]; have := Nat.mul_le_mul_right 66 h2.2; omega
  · have e : bdG m = bigv m.id 2 := by unfold bdG; rw [(mf_11 h hk).2]; simp [zM]
    rw [e, bigv_length]; omega
  · have e : bdG m = [] := by unfold bdG; rw [(mf_12 h hk).2]; simp [zM]
    rw [e]; exact Nat.zero_le _
  · have e : bdG m = [] := by unfold bdG; rw [(mf_13 h hk).2]; simp [zM]
    rw [e]; exact Nat.zero_le _
  · have e : bdG m = [] := by unfold bdG; rw [(mf_14 h hk).2]; simp [zM]
    rw [e]; exact Nat.zero_le _
theorem en_len {m : Mq} (h : mayG m = true) : (enG m).length = (lenG (bdG m).length).length + (bdG m).length + 1 ∧ (enG m).length ≤ 606 := by
  have h1 := bd_le h
  have h2 := lenG_len (bdG m).length
  have e : (enG m).length = (lenG (bdG m).length).length + (bdG m).length + 1 := by rw [en_eq, List.length_cons, List.length_append]
  exact ⟨e, by omega⟩
theorem pa_rp (l : List UInt8) : paG l = rpG l := by
  unfold paG rpG parG
  cases l with
  | nil => rfl
  | cons x t =>
    dsimp only
    split
    · rename_i he
      generalize hM : msG 0 0 t = M at he
      obtain ⟨h, n, e⟩ := M
      dsimp only at he ⊢
      subst he
      unfold cutG
      dsimp only
      split
      · rfl
      split
      · rfl
      · generalize hd : dcG (x.toNat : Int) (((x :: t).take (h + n)).drop h) = d
        generalize hr : rcG (x.toNat : Int) (((x :: t).take (h + n)).drop h) = r
        obtain ⟨r1, r2⟩ := r
        unfold ckG
        dsimp only
        by_cases hA : (mayG d && (enG d == (x :: t).take (h + n))) = true
        · rw [Bool.and_eq_true, beq_iff_eq] at hA
          obtain ⟨-, g2⟩ := read_en hA.1 (by have := bd_le hA.1; omega) hM hA.2
          rw [hr] at g2
          injection g2 with g3 g4
          subst g3 g4
          rfl
        · have hB : ¬ ((!r2 && (mayG r1 && (enG r1 == (x :: t).take (h + n)))) = true) := by
            intro hB
            have hC := (Bool.and_eq_true _ _ ▸ hB).2
            have hD := hC
            rw [Bool.and_eq_true, beq_iff_eq] at hC
            obtain ⟨g1, -⟩ := read_en hC.1 (by have := bd_le hC.1; omega) hM hC.2
            rw [hd] at g1
            subst g1
            exact hA hD
          rw [if_neg hB, if_neg (by simpa using hA)]
    · rfl
theorem pa_ok {l : List UInt8} {d : Mq} {n : Nat} (h : paG l = (d, n, 0)) : mayG d = true ∧ enG d = l.take n ∧ n ≤ l.length ∧ 1 ≤ n := by
  unfold paG parG at h
  cases l with
  | nil => simp at h
  | cons x t =>
    dsimp only at h
    split at h
    · unfold cutG at h
      dsimp only at h
      split at h
      · simp at h
      split at h
      · simp at h
      · rename_i h2
        unfold ckG at h
        split at h
        · rename_i hc
          injection h with a1 a2
          injection a2 with a2 a3
          subst a1
          rw [Bool.and_eq_true, Bool.and_eq_true, beq_iff_eq] at hc
          rw [List.length_take, Nat.min_eq_left (by omega)] at a2
          subst a2
          refine ⟨hc.2.1, hc.2.2, by omega, ?_⟩
          have := congrArg List.length hc.2.2
          rw [List.length_take, Nat.min_eq_left (by omega), (en_len hc.2.1).1] at this
          omega
        · simp at h
    · rename_i h2
      injection h with a1 a2
      injection a2 with a2 a3
      exact absurd a3 h2
theorem pa_no {l : List UInt8} (h : (paG l).2.2 ≠ 0) : paG l = (zM 0, 0, (paG l).2.2) := by
  revert h
  unfold paG parG
  cases l with
  | nil => intro; rfl
  | cons x t =>
    dsimp only
    split
    · unfold cutG
      dsimp only
      split
      · intro; rfl
      split
      · intro; rfl
      · unfold ckG
        split
        · intro h; exact absurd rfl h
        · intro; rfl
    · intro; rfl
end
end Go.Proofs.YtpgnlhfokffioaaDoor
