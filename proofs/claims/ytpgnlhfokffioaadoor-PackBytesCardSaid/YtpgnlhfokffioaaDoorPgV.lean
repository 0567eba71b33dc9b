/-
  Packets: which may be, by the code.
  Packets: which may be, by the code: lists; the fields of other kinds; Check.
-/
import Derived.Test.YtpgnlhfokffioaaDoorMqB
import Derived.Test.YtpgnlhfokffioaaDoorTopC
import Derived.Test.YtpgnlhfokffioaaDoorMqR
import Derived.Test.YtpgnlhfokffioaaDoorFw
namespace Go.Proofs.YtpgnlhfokffioaaDoor
open Go.RowKit Go.Lib
def tblG : List TE := [⟨3, false, 1, [], 0⟩, ⟨4, false, 1, [], 0⟩, ⟨5, false, 1, [], 0⟩, ⟨9, false, 1, [], 2⟩, ⟨15, false, 1, [], 0⟩, ⟨16, false, 1, [], 0⟩, ⟨17, false, 1, [], 0⟩, ⟨21, false, 1, [], 0⟩, ⟨22, false, 1, [], 1⟩, ⟨25, true, 5, [0, 1, 2, 3, 4], 0⟩, ⟨26, false, 1, [], 1⟩, ⟨27, false, 1, [], 1⟩, ⟨28, false, 1, [], 1⟩, ⟨30, true, 24, [0, 1, 2, 3, 4, 9, 10, 11, 12, 13, 14, 15, 16, 17, 18, 19, 20, 21, 22, 23], 0⟩, ⟨31, false, 1, [], 1⟩, ⟨33, true, 25, [0, 24], 0⟩, ⟨35, false, 1, [], 0⟩, ⟨44, false, 1, [], 1⟩, ⟨54, false, 1, [], 1⟩, ⟨83, false, 1, [], 0⟩, ⟨93, true, 2, [0, 1], 0⟩, ⟨97, false, 1, [], 0⟩, ⟨99, true, 1, [0], 0⟩, ⟨101, false, 1, [], 0⟩, ⟨104, false, 1, [], 0⟩, ⟨106, true, 2, [0, 1], 0⟩, ⟨116, false, 1, [], 1⟩, ⟨123, false, 1, [], 0⟩, ⟨134, false, 1, [], 0⟩, ⟨135, false, 1, [], 0⟩, ⟨146, false, 1, [], 0⟩]
theorem tblG_ok : tblG.all (TE.okB Tryd.prog) = true := by kernel_rfl
instance : TOk Tryd.prog tblG := ⟨tblG_ok⟩
/-- The tables that utf8.ValidString reads. -/
def Tabs (w : World) : Prop := Lib.Utf8Tabs (Tryd.laysValid_ren.g 3) (Tryd.laysValid_ren.g 4) w
theorem Tabs.below {w w' : World} (h : Tabs w) (hb : Below w.heap.size w w') : Tabs w' := Utf8Tabs_below h hb
def vdG (s : ByteArray) : Bool := Lib.validD s.data.toList
def zrG (s : ByteArray) : Bool := decide (0 ≤ Lib.indexByte s.data.toList 0)
def plG (s : ByteArray) : Bool := Lib.containsAny s.data.toList [43, 35]
/-- A text of so many bytes: valid, without a byte of zero. -/
def txG (s : ByteArray) (lo hi : Int) : Bool := decide (lo ≤ (s.size : Int)) && (decide ((s.size : Int) ≤ hi) && (vdG s && !zrG s))
def tpG (s : ByteArray) : Bool := txG s 1 64 && !plG s
def qsG (n : Int) : Bool := decide (0 ≤ n) && decide (n ≤ 2)
def idG (n : Int) : Bool := decide (1 ≤ n) && decide (n ≤ 65535)
def ctG (n : Int) : Bool := decide (1 ≤ n) && decide (n ≤ 8)
def wlG (m : Mq) : Bool := if m.wI then txG m.wT 1 64 && (decide ((m.wP.size : Int) ≤ 128) && qsG m.wQ) else isE m.wT && isE m.wP && (m.wQ == 0) && !m.wR
def pbG (m : Mq) : Bool := tpG m.top && (qsG m.q && (!decide (128 < (m.pay.size : Int)) && (if m.q == 0 then !m.dup && m.id == 0 else idG m.id)))
def cnG (m : Mq) : Bool := (txG m.cl 0 23 && (!decide (m.keep < 0) && (!decide (65535 < m.keep) && wlG m))) && ((txG m.us 0 64 && (m.hu || isE m.us)) && (!decide (64 < (m.pa.size : Int)) && ((m.hp || isE m.pa) && (!m.hp || m.hu))))
def wishG (x : EWish) : Bool := txG x.f 1 64 && qsG x.q
def codeG (n : Int) : Bool := qsG n || n == 128
def filtG (s : ByteArray) : Bool := txG s 1 64
def wsG (l : List EWish) : Bool := l.all wishG
def csG (l : List Int) : Bool := l.all codeG
def fsG (l : List ByteArray) : Bool := l.all filtG
theorem eqStrG (x y : Operand) (s t : ByteArray) (op : BinOp) (w : World) : (eqGuard op 9 x y (.string s) (.string t)).run Tryd.prog w = .ok () w := by cases op <;> simp [go_sem]
theorem strNeE (s : ByteArray) (w : World) : (binOp .neq 9 (.string s) (.string { data := #[] })).run Tryd.prog w = .ok (.bool (!isE s)) w := by simp [go_sem, isE]
theorem E0_toList : ({ data := #[] } : ByteArray).toList = [] := ba_nil
/-- An element of a list that is read. -/
theorem slR_at {W : World} {n i k c : Nat} {a : Option Addr} {L : List (List Value)} {q : List Value} (h : SlR W n (.slice a k c) L) (hi : L[i]? = some q) : ∃ b off, a = some ⟨b, off, none⟩ ∧ b < W.heap.size ∧ ∀ j u, q[j]? = some u → W.cell? ⟨b, off + i * n + j, none⟩ = some u := by
  obtain ⟨ao, cap, e, h1, h2, h3, h4⟩ := id h
  injection e with e1 e2 e3
  obtain ⟨b, off, e4, hb, hq⟩ := h4 (by rintro rfl; simp at hi)
  exact ⟨b, off, e1.trans e4, hb, fun j u hj => hq i q hi j u hj⟩
theorem slR_len {W : World} {n k c : Nat} {a : Option Addr} {L : List (List Value)} (h : SlR W n (.slice a k c) L) : k = L.length := by
  obtain ⟨ao, cap, e, -⟩ := h
  injection e with e1 e2 e3
theorem idxWs (b off n cap i : Nat) (hi : i < n) (w : World) : (Instr.indexAt 27 (.slice (some ⟨b, off, none⟩) n cap) (.int .i64 (i : Int))).run Tryd.prog w = .ok (.pointer (some ⟨b, off + i * 2, none⟩)) w := by
  have h2 : ¬ n ≤ i := by omega
  simp [go_sem, Instr.indexAt, h2]
theorem idxIs (b off n cap i : Nat) (hi : i < n) (w : World) : (Instr.indexAt 26 (.slice (some ⟨b, off, none⟩) n cap) (.int .i64 (i : Int))).run Tryd.prog w = .ok (.pointer (some ⟨b, off + i * 1, none⟩)) w := by
  have h2 : ¬ n ≤ i := by omega
  simp [go_sem, Instr.indexAt, h2]
theorem idxSs (b off n cap i : Nat) (hi : i < n) (w : World) : (Instr.indexAt 28 (.slice (some ⟨b, off, none⟩) n cap) (.int .i64 (i : Int))).run Tryd.prog w = .ok (.pointer (some ⟨b, off + i * 1, none⟩)) w := by
  have h2 : ¬ n ≤ i := by omega
  simp [go_sem, Instr.indexAt, h2]
theorem ldI1 {W : World} {b o : Nat} {x : Int} (h : W.cell? ⟨b, o, none⟩ = some (.int .i64 x)) : (Instr.loadAt 3 (.pointer (some ⟨b, o, none⟩))).run Tryd.prog W = .ok (.int .i64 x) W := by simp [go_sem, Instr.loadAt, h]
theorem ldS1 {W : World} {b o : Nat} {x : ByteArray} (h : W.cell? ⟨b, o, none⟩ = some (.string x)) : (Instr.loadAt 9 (.pointer (some ⟨b, o, none⟩))).run Tryd.prog W = .ok (.string x) W := by simp [go_sem, Instr.loadAt, h]
theorem ldW2 {W : World} {b o : Nat} {x : EWish} (h : ∀ j u, (rowWish x)[j]? = some u → W.cell? ⟨b, o + j, none⟩ = some u) : (Instr.loadAt 93 (.pointer (some ⟨b, o, none⟩))).run Tryd.prog W = .ok (.agg #[.string x.f, .int .i64 x.q]) W :=
  run_loadAt_mid W b o _ (rowWish x) _ h Tryd.underlying93 rfl (by kernel_rfl)
theorem all_take {α : Type} {p : α → Bool} {l : List α} {i : Nat} {x : α} (h : (l.take i).all p = true) (hx : l[i]? = some x) (hp : p x = true) : (l.take (i + 1)).all p = true := by
  rw [List.take_add_one, hx, List.all_append, h]; simp [hp]
theorem all_no {α : Type} {p : α → Bool} {l : List α} {i : Nat} {x : α} (hx : l[i]? = some x) (hp : p x = false) : l.all p = false := by
  cases h : l.all p with
  | false => rfl
  | true => rw [List.all_eq_true.1 h x (List.mem_of_getElem? hx)] at hp; cases hp
set_option maxRecDepth 100000 in
set_option maxHeartbeats 4000000 in
theorem isTextG (s : ByteArray) (lo hi : Int) (w : World) (hs : s.size ≤ 9223372036854775807) (hT : Tabs w) :
    Calls Tryd.prog 96 #[.string s, .int .i64 lo, .int .i64 hi] w fun e w' => e = .returned (.bool (txG s lo hi)) ∧ Below w.heap.size w w' := by
  have hb0 := Below.refl w.heap.size w
  refine fw_en 26 [(0, .string s), (1, .int .i64 lo), (2, .int .i64 hi)] Tryd.func96 rfl Tryd.ntmps96 rfl ⟨rfl, rfl, rfl, trivial⟩ ?_
  refine fw_sq ?_
  refine fw_rg rfl ?_
  refine fw_pu rfl ?_
  refine fw_dt ?_
  refine fw_sq ?_
  refine fw_rg rfl ?_
  iterate 5 refine fw_pu rfl ?_
  rcases Bool.eq_false_or_eq_true ((decide (lo ≤ (s.size : Int)))) with hb_1 | hb_1
  · skip
    refine fw_kn 11 rfl hb_1 ?_
    iterate 6 refine fw_pu rfl ?_
    rcases Bool.eq_false_or_eq_true ((decide ((s.size : Int) ≤ hi))) with hb_2 | hb_2
    · skip
      refine fw_kn 17 rfl hb_2 ?_
      refine fw_pu rfl ?_
      refine fw_ca Tryd.func78 rfl rfl rfl ((Any.utf8_ValidString Tryd.laysValid s w hs (hT.below hb0))) ?_
      rintro _ V4 ⟨rfl, hb3⟩
      refine ⟨(.bool (vdG s)), rfl, ?_⟩
      have b5 := hb0.trans (hb3.mono hb0.size)
      iterate 2 refine fw_pu rfl ?_
      rcases Bool.eq_false_or_eq_true ((vdG s)) with hb_6 | hb_6
      · skip
        refine fw_kn 21 rfl hb_6 ?_
        refine fw_pu rfl ?_
        refine fw_ca Tryd.func100 rfl rfl rfl ((Any.strings_Contains_one Tryd.laysContains s 0 V4)) ?_
        rintro _ _ ⟨rfl, rfl⟩
        refine ⟨(.bool (zrG s)), rfl, ?_⟩
        iterate 3 refine fw_pu rfl ?_
        refine fw_dt ?_
        refine fw_rt ?_
        refine ⟨fun a h => ?_⟩
        exact ow_ret1 rfl h.df (h.g 6 rfl) ⟨by (try unfold txG); simp [hb_1, hb_2, hb_6], b5⟩
      refine fw_kn 21 rfl hb_6 ?_
      iterate 5 refine fw_pu rfl ?_
      refine fw_dt ?_
      refine fw_rt ?_
      refine ⟨fun a h => ?_⟩
      exact ow_ret1 rfl h.df (h.g 6 rfl) ⟨by (try unfold txG); simp [hb_1, hb_2, hb_6], b5⟩
    refine fw_kn 17 rfl hb_2 ?_
    iterate 9 refine fw_pu rfl ?_
    refine fw_dt ?_
    refine fw_rt ?_
    refine ⟨fun a h => ?_⟩
    exact ow_ret1 rfl h.df (h.g 6 rfl) ⟨by (try unfold txG); simp [hb_1, hb_2], hb0⟩
  refine fw_kn 11 rfl hb_1 ?_
  iterate 15 refine fw_pu rfl ?_
  refine fw_dt ?_
  refine fw_rt ?_
  refine ⟨fun a h => ?_⟩
  exact ow_ret1 rfl h.df (h.g 6 rfl) ⟨by (try unfold txG); simp [hb_1], hb0⟩
set_option maxRecDepth 100000 in
set_option maxHeartbeats 4000000 in
theorem isQoSG (n : Int) (w : World) :
    Calls Tryd.prog 99 #[.int .i64 n] w fun e w' => e = .returned (.bool (qsG n)) ∧ w = w' := by
  have hb0 := Below.refl w.heap.size w
  refine fw_en 9 [(0, .int .i64 n)] Tryd.func99 rfl Tryd.ntmps99 rfl ⟨rfl, trivial⟩ ?_
  refine fw_sq ?_
  refine fw_rg rfl ?_
  refine fw_pu rfl ?_
  refine fw_dt ?_
  refine fw_sq ?_
  refine fw_rg rfl ?_
  iterate 3 refine fw_pu rfl ?_
  rcases Bool.eq_false_or_eq_true ((decide (0 ≤ n))) with hb_1 | hb_1
  · skip
    refine fw_kn 5 rfl hb_1 ?_
    iterate 4 refine fw_pu rfl ?_
    refine fw_dt ?_
    refine fw_rt ?_
    refine ⟨fun a h => ?_⟩
    exact ow_ret1 rfl h.df (h.g 2 rfl) ⟨by (try unfold qsG); simp [hb_1], rfl⟩
  refine fw_kn 5 rfl hb_1 ?_
  iterate 4 refine fw_pu rfl ?_
  refine fw_dt ?_
  refine fw_rt ?_
  refine ⟨fun a h => ?_⟩
  exact ow_ret1 rfl h.df (h.g 2 rfl) ⟨by (try unfold qsG); simp [hb_1], rfl⟩
set_option maxRecDepth 100000 in
set_option maxHeartbeats 4000000 in
theorem isIDG (n : Int) (w : World) :
    Calls Tryd.prog 81 #[.int .i64 n] w fun e w' => e = .returned (.bool (idG n)) ∧ w = w' := by
  have hb0 := Below.refl w.heap.size w
  refine fw_en 9 [(0, .int .i64 n)] Tryd.func81 rfl Tryd.ntmps81 rfl ⟨rfl, trivial⟩ ?_
  refine fw_sq ?_
  refine fw_rg rfl ?_
  refine fw_pu rfl ?_
  refine fw_dt ?_
  refine fw_sq ?_
  refine fw_rg rfl ?_
  iterate 3 refine fw_pu rfl ?_
  rcases Bool.eq_false_or_eq_true ((decide (1 ≤ n))) with hb_1 | hb_1
  · skip
    refine fw_kn 5 rfl hb_1 ?_
    iterate 4 refine fw_pu rfl ?_
    refine fw_dt ?_
    refine fw_rt ?_
    refine ⟨fun a h => ?_⟩
    exact ow_ret1 rfl h.df (h.g 2 rfl) ⟨by (try unfold idG); simp [hb_1], rfl⟩
  refine fw_kn 5 rfl hb_1 ?_
  iterate 4 refine fw_pu rfl ?_
  refine fw_dt ?_
  refine fw_rt ?_
  refine ⟨fun a h => ?_⟩
  exact ow_ret1 rfl h.df (h.g 2 rfl) ⟨by (try unfold idG); simp [hb_1], rfl⟩
set_option maxRecDepth 100000 in
set_option maxHeartbeats 4000000 in
theorem isCountG (n : Int) (w : World) :
    Calls Tryd.prog 82 #[.int .i64 n] w fun e w' => e = .returned (.bool (ctG n)) ∧ w = w' := by
  have hb0 := Below.refl w.heap.size w
  refine fw_en 9 [(0, .int .i64 n)] Tryd.func82 rfl Tryd.ntmps82 rfl ⟨rfl, trivial⟩ ?_
  refine fw_sq ?_
  refine fw_rg rfl ?_
  refine fw_pu rfl ?_
  refine fw_dt ?_
  refine fw_sq ?_
  refine fw_rg rfl ?_
  iterate 3 refine fw_pu rfl ?_
  rcases Bool.eq_false_or_eq_true ((decide (1 ≤ n))) with hb_1 | hb_1
  · skip
    refine fw_kn 5 rfl hb_1 ?_
    iterate 4 refine fw_pu rfl ?_
    refine fw_dt ?_
    refine fw_rt ?_
    refine ⟨fun a h => ?_⟩
    exact ow_ret1 rfl h.df (h.g 2 rfl) ⟨by (try unfold ctG); simp [hb_1], rfl⟩
  refine fw_kn 5 rfl hb_1 ?_
  iterate 4 refine fw_pu rfl ?_
  refine fw_dt ?_
  refine fw_rt ?_
  refine ⟨fun a h => ?_⟩
  exact ow_ret1 rfl h.df (h.g 2 rfl) ⟨by (try unfold ctG); simp [hb_1], rfl⟩
set_option maxRecDepth 100000 in
set_option maxHeartbeats 4000000 in
theorem isTopicG (s : ByteArray) (w : World) (hs : s.size ≤ far) (hT : Tabs w) :
    Calls Tryd.prog 98 #[.string s] w fun e w' => e = .returned (.bool (tpG s)) ∧ Below w.heap.size w w' := by
  have hb0 := Below.refl w.heap.size w
  have hs0 : s.size ≤ 140737488351232 := hs
  refine fw_en 10 [(0, .string s)] Tryd.func98 rfl Tryd.ntmps98 rfl ⟨rfl, trivial⟩ ?_
  refine fw_sq ?_
  refine fw_rg rfl ?_
  refine fw_pu rfl ?_
  refine fw_dt ?_
  refine fw_sq ?_
  refine fw_rg rfl ?_
  refine fw_pu rfl ?_
  refine fw_ca Tryd.func96 rfl rfl rfl ((isTextG s 1 64 w (by omega) (hT.below hb0))) ?_
  rintro _ V2 ⟨rfl, hb1⟩
  refine ⟨(.bool (txG s 1 64)), rfl, ?_⟩
  have b3 := hb0.trans (hb1.mono hb0.size)
  refine fw_pu rfl ?_
  rcases Bool.eq_false_or_eq_true ((txG s 1 64)) with hb_4 | hb_4
  · skip
    refine fw_kn 5 rfl hb_4 ?_
    refine fw_pu rfl ?_
    refine fw_ca Tryd.func101 rfl rfl rfl ((containsAny_any s V2 (by have h := hb_4; unfold txG at h; simp at h; omega))) ?_
    rintro _ V6 ⟨rfl, hb5⟩
    refine ⟨(.bool (plG s)), rfl, ?_⟩
    have b7 := b3.trans (hb5.mono b3.size)
    iterate 3 refine fw_pu rfl ?_
    refine fw_dt ?_
    refine fw_rt ?_
    refine ⟨fun a h => ?_⟩
    exact ow_ret1 rfl h.df (h.g 2 rfl) ⟨by (try unfold tpG); simp [hb_4], b7⟩
  refine fw_kn 5 rfl hb_4 ?_
  iterate 5 refine fw_pu rfl ?_
  refine fw_dt ?_
  refine fw_rt ?_
  refine ⟨fun a h => ?_⟩
  exact ow_ret1 rfl h.df (h.g 2 rfl) ⟨by (try unfold tpG); simp [hb_4], b3⟩
set_option maxRecDepth 100000 in
set_option maxHeartbeats 4000000 in
theorem validWillG (m : Mq) (w : World) (hF : m.Far) (hT : Tabs w) :
    Calls Tryd.prog 97 #[.agg #[.bool m.wI, .string m.wT, .string m.wP, .int .i64 m.wQ, .bool m.wR]] w fun e w' => e = .returned (.bool (wlG m)) ∧ Below w.heap.size w w' := by
  have hb0 := Below.refl w.heap.size w
  have hF0 : m.cl.size ≤ 140737488351232 := hF.cl
  have hF1 : m.wT.size ≤ 140737488351232 := hF.wT
  have hF2 : m.wP.size ≤ 140737488351232 := hF.wP
  have hF3 : m.us.size ≤ 140737488351232 := hF.us
  have hF4 : m.pa.size ≤ 140737488351232 := hF.pa
  have hF5 : m.top.size ≤ 140737488351232 := hF.top
  have hF6 : m.pay.size ≤ 140737488351232 := hF.pay
  refine fw_en 23 [(0, .agg #[.bool m.wI, .string m.wT, .string m.wP, .int .i64 m.wQ, .bool m.wR])] Tryd.func97 rfl Tryd.ntmps97 rfl ⟨rfl, trivial⟩ ?_
  refine fw_sq ?_
  refine fw_rg rfl ?_
  refine fw_bx rfl (cs := [.bool m.wI, .string m.wT, .string m.wP, .int .i64 m.wQ, .bool m.wR]) rfl ?_
  intro q1 W2 g5 s3 r4
  have := Nat.le_trans hb0.size g5
  have b6 := hb0.trans (s3.mono hb0.size)
  refine fw_pu rfl ?_
  refine fw_dt ?_
  refine fw_sq ?_
  refine fw_sq ?_
  refine fw_rg rfl ?_
  refine fw_pu rfl ?_
  refine fw_ld r4 rfl rfl ?_
  refine fw_pu rfl ?_
  refine fw_dt ?_
  rcases Bool.eq_false_or_eq_true (m.wI) with hb_7 | hb_7
  · skip
    refine fw_cF rfl (not_of hb_7) ?_
    refine fw_sk ?_
    refine fw_th ?_
    refine fw_sq ?_
    refine fw_rg rfl ?_
    refine fw_pu rfl ?_
    refine fw_ld r4 rfl rfl ?_
    refine fw_ca Tryd.func96 rfl rfl rfl ((isTextG m.wT 1 64 W2 (by omega) (hT.below b6))) ?_
    rintro _ V9 ⟨rfl, hb8⟩
    refine ⟨(.bool (txG m.wT 1 64)), rfl, ?_⟩
    have b10 := b6.trans (hb8.mono b6.size)
    have r11 := r4.below hb8
    refine fw_pu rfl ?_
    rcases Bool.eq_false_or_eq_true ((txG m.wT 1 64)) with hb_12 | hb_12
    · skip
      refine fw_kn 12 rfl hb_12 ?_
      refine fw_pu rfl ?_
      refine fw_ld r11 rfl rfl ?_
      iterate 4 refine fw_pu rfl ?_
      rcases Bool.eq_false_or_eq_true ((decide ((m.wP.size : Int) ≤ 128))) with hb_13 | hb_13
      · skip
        refine fw_kn 18 rfl hb_13 ?_
        refine fw_pu rfl ?_
        refine fw_ld r11 rfl rfl ?_
        refine fw_ca Tryd.func99 rfl rfl rfl ((isQoSG m.wQ V9)) ?_
        rintro _ _ ⟨rfl, rfl⟩
        refine ⟨(.bool (qsG m.wQ)), rfl, ?_⟩
        iterate 2 refine fw_pu rfl ?_
        refine fw_dt ?_
        refine fw_rt ?_
        refine ⟨fun a h => ?_⟩
        exact ow_ret1 rfl h.df (h.g 2 rfl) ⟨by (try unfold wlG); simp [hb_7, hb_12, hb_13], b10⟩
      refine fw_kn 18 rfl hb_13 ?_
      iterate 5 refine fw_pu rfl ?_
      refine fw_dt ?_
      refine fw_rt ?_
      refine ⟨fun a h => ?_⟩
      exact ow_ret1 rfl h.df (h.g 2 rfl) ⟨by (try unfold wlG); simp [hb_7, hb_12, hb_13], b10⟩
    refine fw_kn 12 rfl hb_12 ?_
    iterate 11 refine fw_pu rfl ?_
    refine fw_dt ?_
    refine fw_rt ?_
    refine ⟨fun a h => ?_⟩
    exact ow_ret1 rfl h.df (h.g 2 rfl) ⟨by (try unfold wlG); simp [hb_7, hb_12], b10⟩
  refine fw_cT rfl (not_of hb_7) ?_
  refine fw_sq ?_
  refine fw_rg rfl ?_
  refine fw_ld r4 rfl rfl ?_
  refine fw_ex 7 (.agg #[.bool false, .string { data := #[] }, .string { data := #[] }, .int .i64 0, .bool false]) rfl rfl rfl (fun a h => (run_buildOp (vs := #[]) (by simp) (by kernel_rfl))) ?_
  refine fw_ex 8 (.bool (!m.wI && isE m.wT && isE m.wP && (m.wQ == 0) && !m.wR)) rfl rfl rfl (fun a h => (run_binOp (h.ev rfl) (h.ev rfl) (eqWill _ _ _ _ _) (willZ _ _ _ _ _ _))) ?_
  refine fw_pu rfl ?_
  refine fw_dt ?_
  refine fw_rt ?_
  refine fw_tr ?_
  refine ⟨fun a h => ?_⟩
  exact ow_ret1 rfl h.df (h.g 2 rfl) ⟨by (try unfold wlG); simp [hb_7], b6⟩
set_option maxRecDepth 100000 in
set_option maxHeartbeats 4000000 in
theorem validPublishG (m : Mq) (ac aw af : Option Addr) (nc nw nf cc cw cf : Nat) (w : World) (hF : m.Far) (hT : Tabs w) :
    Calls Tryd.prog 80 #[.agg (Mq.row m (.slice ac nc cc) (.slice aw nw cw) (.slice af nf cf)).toArray] w fun e w' => e = .returned (.bool (pbG m)) ∧ Below w.heap.size w w' := by
  have hb0 := Below.refl w.heap.size w
  have hF0 : m.cl.size ≤ 140737488351232 := hF.cl
  have hF1 : m.wT.size ≤ 140737488351232 := hF.wT
  have hF2 : m.wP.size ≤ 140737488351232 := hF.wP
  have hF3 : m.us.size ≤ 140737488351232 := hF.us
  have hF4 : m.pa.size ≤ 140737488351232 := hF.pa
  have hF5 : m.top.size ≤ 140737488351232 := hF.top
  have hF6 : m.pay.size ≤ 140737488351232 := hF.pay
  refine fw_en 33 [(0, .agg (Mq.row m (.slice ac nc cc) (.slice aw nw cw) (.slice af nf cf)).toArray)] Tryd.func80 rfl Tryd.ntmps80 rfl ⟨rfl, trivial⟩ ?_
  refine fw_sq ?_
  refine fw_rg rfl ?_
  refine fw_bx rfl (cs := [.int .i64 m.k, .string m.cl, .bool m.clean, .int .i64 m.keep, .bool m.wI, .string m.wT, .string m.wP, .int .i64 m.wQ, .bool m.wR, .string m.us, .bool m.hu, .string m.pa, .bool m.hp, .bool m.pres, .int .i64 m.code, .slice ac nc cc, .bool m.dup, .int .i64 m.q, .bool m.re, .string m.top, .int .i64 m.id, .string m.pay, .slice aw nw cw, .slice af nf cf]) rfl ?_
  intro q1 W2 g5 s3 r4
  have := Nat.le_trans hb0.size g5
  have b6 := hb0.trans (s3.mono hb0.size)
  refine fw_pu rfl ?_
  refine fw_dt ?_
  refine fw_sq ?_
  refine fw_sq ?_
  refine fw_rg rfl ?_
  refine fw_pu rfl ?_
  refine fw_ld r4 rfl rfl ?_
  refine fw_ca Tryd.func98 rfl rfl rfl ((isTopicG m.top W2 (by omega) (hT.below b6))) ?_
  rintro _ V8 ⟨rfl, hb7⟩
  refine ⟨(.bool (tpG m.top)), rfl, ?_⟩
  have b9 := b6.trans (hb7.mono b6.size)
  have r10 := r4.below hb7
  iterate 2 refine fw_pu rfl ?_
  rcases Bool.eq_false_or_eq_true ((tpG m.top)) with hb_11 | hb_11
  · skip
    refine fw_kn 7 rfl (not_of hb_11) ?_
    refine fw_pu rfl ?_
    refine fw_ld r10 rfl rfl ?_
    refine fw_ca Tryd.func99 rfl rfl rfl ((isQoSG m.q V8)) ?_
    rintro _ _ ⟨rfl, rfl⟩
    refine ⟨(.bool (qsG m.q)), rfl, ?_⟩
    iterate 3 refine fw_pu rfl ?_
    rcases Bool.eq_false_or_eq_true ((qsG m.q)) with hb_12 | hb_12
    · skip
      refine fw_kn 13 rfl (not_of hb_12) ?_
      refine fw_pu rfl ?_
      refine fw_ld r10 rfl rfl ?_
      iterate 3 refine fw_pu rfl ?_
      refine fw_dt ?_
      rcases Bool.eq_false_or_eq_true ((decide (128 < (m.pay.size : Int)))) with hb_13 | hb_13
      · skip
        refine fw_cT rfl hb_13 ?_
        refine fw_sq ?_
        refine fw_rg rfl ?_
        refine fw_pu rfl ?_
        refine fw_dt ?_
        refine fw_rt ?_
        refine fw_tr ?_
        refine ⟨fun a h => ?_⟩
        exact ow_ret1 rfl h.df (h.g 2 rfl) ⟨by (try unfold pbG); simp [hb_11, hb_12, hb_13], b9⟩
      refine fw_cF rfl hb_13 ?_
      refine fw_sk ?_
      refine fw_th ?_
      refine fw_sq ?_
      refine fw_sq ?_
      refine fw_rg rfl ?_
      refine fw_pu rfl ?_
      refine fw_ld r10 rfl rfl ?_
      refine fw_pu rfl ?_
      refine fw_dt ?_
      rcases Bool.eq_false_or_eq_true ((m.q == 0)) with hb_14 | hb_14
      · skip
        refine fw_cT rfl hb_14 ?_
        refine fw_sq ?_
        refine fw_rg rfl ?_
        refine fw_pu rfl ?_
        refine fw_ld r10 rfl rfl ?_
        iterate 2 refine fw_pu rfl ?_
        rcases Bool.eq_false_or_eq_true (m.dup) with hb_15 | hb_15
        · skip
          refine fw_kn 25 rfl (not_of hb_15) ?_
          iterate 5 refine fw_pu rfl ?_
          refine fw_dt ?_
          refine fw_rt ?_
          refine fw_tr ?_
          refine ⟨fun a h => ?_⟩
          exact ow_ret1 rfl h.df (h.g 2 rfl) ⟨by (try unfold pbG); simp [hb_11, hb_12, hb_13, hb_14, hb_15], b9⟩
        refine fw_kn 25 rfl (not_of hb_15) ?_
        refine fw_pu rfl ?_
        refine fw_ld r10 rfl rfl ?_
        iterate 3 refine fw_pu rfl ?_
        refine fw_dt ?_
        refine fw_rt ?_
        refine fw_tr ?_
        refine ⟨fun a h => ?_⟩
        exact ow_ret1 rfl h.df (h.g 2 rfl) ⟨by (try unfold pbG); simp [hb_11, hb_12, hb_13, hb_14, hb_15], b9⟩
      refine fw_cF rfl hb_14 ?_
      refine fw_sk ?_
      refine fw_th ?_
      refine fw_sq ?_
      refine fw_rg rfl ?_
      refine fw_pu rfl ?_
      refine fw_ld r10 rfl rfl ?_
      refine fw_ca Tryd.func81 rfl rfl rfl ((isIDG m.id V8)) ?_
      rintro _ _ ⟨rfl, rfl⟩
      refine ⟨(.bool (idG m.id)), rfl, ?_⟩
      refine fw_pu rfl ?_
      refine fw_dt ?_
      refine fw_rt ?_
      refine ⟨fun a h => ?_⟩
      exact ow_ret1 rfl h.df (h.g 2 rfl) ⟨by (try unfold pbG); simp [hb_11, hb_12, hb_13, hb_14], b9⟩
    refine fw_kn 13 rfl (not_of hb_12) ?_
    iterate 5 refine fw_pu rfl ?_
    refine fw_dt ?_
    refine fw_cT rfl rfl ?_
    refine fw_sq ?_
    refine fw_rg rfl ?_
    refine fw_pu rfl ?_
    refine fw_dt ?_
    refine fw_rt ?_
    refine fw_tr ?_
    refine ⟨fun a h => ?_⟩
    exact ow_ret1 rfl h.df (h.g 2 rfl) ⟨by (try unfold pbG); simp [hb_11, hb_12], b9⟩
  refine fw_kn 7 rfl (not_of hb_11) ?_
  iterate 11 refine fw_pu rfl ?_
  refine fw_dt ?_
  refine fw_cT rfl rfl ?_
  refine fw_sq ?_
  refine fw_rg rfl ?_
  refine fw_pu rfl ?_
  refine fw_dt ?_
  refine fw_rt ?_
  refine fw_tr ?_
  refine ⟨fun a h => ?_⟩
  exact ow_ret1 rfl h.df (h.g 2 rfl) ⟨by (try unfold pbG); simp [hb_11], b9⟩
set_option maxRecDepth 100000 in
set_option maxHeartbeats 4000000 in
theorem validConnectG (m : Mq) (ac aw af : Option Addr) (nc nw nf cc cw cf : Nat) (w : World) (hF : m.Far) (hT : Tabs w) :
    Calls Tryd.prog 79 #[.agg (Mq.row m (.slice ac nc cc) (.slice aw nw cw) (.slice af nf cf)).toArray] w fun e w' => e = .returned (.bool (cnG m)) ∧ Below w.heap.size w w' := by
  have hb0 := Below.refl w.heap.size w
  have hF0 : m.cl.size ≤ 140737488351232 := hF.cl
  have hF1 : m.wT.size ≤ 140737488351232 := hF.wT
  have hF2 : m.wP.size ≤ 140737488351232 := hF.wP
  have hF3 : m.us.size ≤ 140737488351232 := hF.us
  have hF4 : m.pa.size ≤ 140737488351232 := hF.pa
  have hF5 : m.top.size ≤ 140737488351232 := hF.top
  have hF6 : m.pay.size ≤ 140737488351232 := hF.pay
  refine fw_en 61 [(0, .agg (Mq.row m (.slice ac nc cc) (.slice aw nw cw) (.slice af nf cf)).toArray)] Tryd.func79 rfl Tryd.ntmps79 rfl ⟨rfl, trivial⟩ ?_
  refine fw_sq ?_
  refine fw_rg rfl ?_
  refine fw_bx rfl (cs := [.int .i64 m.k, .string m.cl, .bool m.clean, .int .i64 m.keep, .bool m.wI, .string m.wT, .string m.wP, .int .i64 m.wQ, .bool m.wR, .string m.us, .bool m.hu, .string m.pa, .bool m.hp, .bool m.pres, .int .i64 m.code, .slice ac nc cc, .bool m.dup, .int .i64 m.q, .bool m.re, .string m.top, .int .i64 m.id, .string m.pay, .slice aw nw cw, .slice af nf cf]) rfl ?_
  intro q1 W2 g5 s3 r4
  have := Nat.le_trans hb0.size g5
  have b6 := hb0.trans (s3.mono hb0.size)
  refine fw_pu rfl ?_
  refine fw_dt ?_
  refine ⟨fun a h => ?_⟩
  refine wp_scope_end rfl rfl fun J' HJ => ?_
  refine wpSpine_seq rfl fun K hK7 => ?_
  refine fw_in h ?_
  refine fw_sq ?_
  refine fw_rg rfl ?_
  refine fw_pu rfl ?_
  refine fw_ld r4 rfl rfl ?_
  refine fw_ca Tryd.func96 rfl rfl rfl ((isTextG m.cl 0 23 W2 (by omega) (hT.below b6))) ?_
  rintro _ V9 ⟨rfl, hb8⟩
  refine ⟨(.bool (txG m.cl 0 23)), rfl, ?_⟩
  have b10 := b6.trans (hb8.mono b6.size)
  have r11 := r4.below hb8
  iterate 2 refine fw_pu rfl ?_
  rcases Bool.eq_false_or_eq_true ((txG m.cl 0 23)) with hb_12 | hb_12
  · skip
    refine fw_kn 7 rfl (not_of hb_12) ?_
    refine fw_pu rfl ?_
    refine fw_ld r11 rfl rfl ?_
    iterate 3 refine fw_pu rfl ?_
    rcases Bool.eq_false_or_eq_true ((decide (m.keep < 0))) with hb_13 | hb_13
    · skip
      refine fw_kn 12 rfl hb_13 ?_
      iterate 10 refine fw_pu rfl ?_
      refine fw_dt ?_
      refine fw_cT rfl rfl ?_
      refine fw_go ?_
      refine ⟨fun a h => ?_⟩
      refine ow_then_goto (ow_jump (HJ _ _ ?_))
      refine fw_in h ?_
      refine fw_sq ?_
      refine fw_rg rfl ?_
      iterate 2 refine fw_pu rfl ?_
      refine fw_dt ?_
      refine fw_rt ?_
      refine ⟨fun a h => ?_⟩
      refine ow_nogoto_ret ?_
      exact ow_ret1 rfl h.df (h.g 2 rfl) ⟨by (try unfold cnG); simp [hb_12, hb_13], b10⟩
    refine fw_kn 12 rfl hb_13 ?_
    refine fw_pu rfl ?_
    refine fw_ld r11 rfl rfl ?_
    iterate 3 refine fw_pu rfl ?_
    rcases Bool.eq_false_or_eq_true ((decide (65535 < m.keep))) with hb_14 | hb_14
    · skip
      refine fw_kn 17 rfl hb_14 ?_
      iterate 5 refine fw_pu rfl ?_
      refine fw_dt ?_
      refine fw_cT rfl rfl ?_
      refine fw_go ?_
      refine ⟨fun a h => ?_⟩
      refine ow_then_goto (ow_jump (HJ _ _ ?_))
      refine fw_in h ?_
      refine fw_sq ?_
      refine fw_rg rfl ?_
      iterate 2 refine fw_pu rfl ?_
      refine fw_dt ?_
      refine fw_rt ?_
      refine ⟨fun a h => ?_⟩
      refine ow_nogoto_ret ?_
      exact ow_ret1 rfl h.df (h.g 2 rfl) ⟨by (try unfold cnG); simp [hb_12, hb_13, hb_14], b10⟩
    refine fw_kn 17 rfl hb_14 ?_
    refine fw_pu rfl ?_
    refine fw_ld r11 rfl rfl ?_
    refine fw_ca Tryd.func97 rfl rfl rfl ((validWillG m V9 hF (hT.below b10))) ?_
    rintro _ V16 ⟨rfl, hb15⟩
    refine ⟨(.bool (wlG m)), rfl, ?_⟩
    have b17 := b10.trans (hb15.mono b10.size)
    have r18 := r11.below hb15
    iterate 2 refine fw_pu rfl ?_
    refine fw_dt ?_
    rcases Bool.eq_false_or_eq_true ((wlG m)) with hb_19 | hb_19
    · skip
      refine fw_cF rfl (not_of hb_19) ?_
      refine fw_sk ?_
      refine ⟨fun a h => ?_⟩
      refine ow_then (hK7 _ _ ?_)
      refine wpSpine_seq rfl fun K hK20 => ?_
      refine fw_in h ?_
      refine fw_sq ?_
      refine fw_rg rfl ?_
      refine fw_pu rfl ?_
      refine fw_ld r18 rfl rfl ?_
      refine fw_ca Tryd.func96 rfl rfl rfl ((isTextG m.us 0 64 V16 (by omega) (hT.below b17))) ?_
      rintro _ V22 ⟨rfl, hb21⟩
      refine ⟨(.bool (txG m.us 0 64)), rfl, ?_⟩
      have b23 := b17.trans (hb21.mono b17.size)
      have r24 := r18.below hb21
      iterate 2 refine fw_pu rfl ?_
      rcases Bool.eq_false_or_eq_true ((txG m.us 0 64)) with hb_25 | hb_25
      · skip
        refine fw_kn 27 rfl (not_of hb_25) ?_
        refine fw_pu rfl ?_
        refine fw_ld r24 rfl rfl ?_
        iterate 2 refine fw_pu rfl ?_
        rcases Bool.eq_false_or_eq_true (m.hu) with hb_26 | hb_26
        · skip
          refine fw_kn 31 rfl (not_of hb_26) ?_
          iterate 5 refine fw_pu rfl ?_
          refine fw_dt ?_
          refine fw_cF rfl rfl ?_
          refine fw_sk ?_
          refine ⟨fun a h => ?_⟩
          refine ow_then (hK20 _ _ ?_)
          refine wpSpine_seq rfl fun K hK27 => ?_
          refine fw_in h ?_
          refine fw_sq ?_
          refine fw_rg rfl ?_
          refine fw_pu rfl ?_
          refine fw_ld r24 rfl rfl ?_
          iterate 3 refine fw_pu rfl ?_
          rcases Bool.eq_false_or_eq_true ((decide (64 < (m.pa.size : Int)))) with hb_28 | hb_28
          · skip
            refine fw_kn 41 rfl hb_28 ?_
            iterate 18 refine fw_pu rfl ?_
            refine fw_dt ?_
            refine fw_cT rfl rfl ?_
            refine fw_go ?_
            refine ⟨fun a h => ?_⟩
            refine ow_then_goto (ow_jump (HJ _ _ ?_))
            refine fw_in h ?_
            refine fw_sq ?_
            refine fw_rg rfl ?_
            iterate 2 refine fw_pu rfl ?_
            refine fw_dt ?_
            refine fw_rt ?_
            refine ⟨fun a h => ?_⟩
            refine ow_nogoto_ret ?_
            exact ow_ret1 rfl h.df (h.g 2 rfl) ⟨by (try unfold cnG); simp [hb_12, hb_13, hb_14, hb_19, hb_25, hb_26, hb_28], b23⟩
          refine fw_kn 41 rfl hb_28 ?_
          refine fw_pu rfl ?_
          refine fw_ld r24 rfl rfl ?_
          iterate 2 refine fw_pu rfl ?_
          rcases Bool.eq_false_or_eq_true (m.hp) with hb_29 | hb_29
          · skip
            refine fw_kn 45 rfl (not_of hb_29) ?_
            iterate 7 refine fw_pu rfl ?_
            refine fw_ld r24 rfl rfl ?_
            refine fw_pu rfl ?_
            refine fw_kn 54 rfl hb_29 ?_
            refine fw_pu rfl ?_
            refine fw_ld r24 rfl rfl ?_
            iterate 3 refine fw_pu rfl ?_
            refine fw_dt ?_
            refine fw_cF rfl (not_of hb_26) ?_
            refine fw_sk ?_
            refine ⟨fun a h => ?_⟩
            refine ow_then (hK27 _ _ ?_)
            refine wpSpine_seq rfl fun K hK30 => ?_
            refine fw_in h ?_
            refine fw_rg rfl ?_
            refine fw_pu rfl ?_
            refine fw_dn ?_
            refine ⟨fun a h => ?_⟩
            refine ow_then (hK30 _ _ ?_)
            refine wpSpine_label (HJ _ _ ?_)
            refine fw_in h ?_
            refine fw_sq ?_
            refine fw_rg rfl ?_
            iterate 2 refine fw_pu rfl ?_
            refine fw_dt ?_
            refine fw_rt ?_
            refine ⟨fun a h => ?_⟩
            refine ow_nogoto_ret ?_
            exact ow_ret1 rfl h.df (h.g 2 rfl) ⟨by (try unfold cnG); simp [hb_12, hb_13, hb_14, hb_19, hb_25, hb_26, hb_28, hb_29], b23⟩
          refine fw_kn 45 rfl (not_of hb_29) ?_
          refine fw_pu rfl ?_
          refine fw_ld r24 rfl rfl ?_
          refine fw_ex 48 (.bool (!(isE m.pa))) rfl rfl rfl (fun a h => (run_binOp (h.ev rfl) (h.ev rfl) (eqStrG _ _ _ _ _ _) (strNeE _ _))) ?_
          iterate 3 refine fw_pu rfl ?_
          rcases Bool.eq_false_or_eq_true ((isE m.pa)) with hb_31 | hb_31
          · skip
            refine fw_kn 51 rfl (not_of hb_31) ?_
            refine fw_pu rfl ?_
            refine fw_ld r24 rfl rfl ?_
            refine fw_pu rfl ?_
            refine fw_kn 54 rfl hb_29 ?_
            iterate 5 refine fw_pu rfl ?_
            refine fw_dt ?_
            refine fw_cF rfl rfl ?_
            refine fw_sk ?_
            refine ⟨fun a h => ?_⟩
            refine ow_then (hK27 _ _ ?_)
            refine wpSpine_seq rfl fun K hK32 => ?_
            refine fw_in h ?_
            refine fw_rg rfl ?_
            refine fw_pu rfl ?_
            refine fw_dn ?_
            refine ⟨fun a h => ?_⟩
            refine ow_then (hK32 _ _ ?_)
            refine wpSpine_label (HJ _ _ ?_)
            refine fw_in h ?_
            refine fw_sq ?_
            refine fw_rg rfl ?_
            iterate 2 refine fw_pu rfl ?_
            refine fw_dt ?_
            refine fw_rt ?_
            refine ⟨fun a h => ?_⟩
            refine ow_nogoto_ret ?_
            exact ow_ret1 rfl h.df (h.g 2 rfl) ⟨by (try unfold cnG); simp [hb_12, hb_13, hb_14, hb_19, hb_25, hb_26, hb_28, hb_29, hb_31], b23⟩
          refine fw_kn 51 rfl (not_of hb_31) ?_
          iterate 8 refine fw_pu rfl ?_
          refine fw_dt ?_
          refine fw_cT rfl rfl ?_
          refine fw_go ?_
          refine ⟨fun a h => ?_⟩
          refine ow_then_goto (ow_jump (HJ _ _ ?_))
          refine fw_in h ?_
          refine fw_sq ?_
          refine fw_rg rfl ?_
          iterate 2 refine fw_pu rfl ?_
          refine fw_dt ?_
          refine fw_rt ?_
          refine ⟨fun a h => ?_⟩
          refine ow_nogoto_ret ?_
          exact ow_ret1 rfl h.df (h.g 2 rfl) ⟨by (try unfold cnG); simp [hb_12, hb_13, hb_14, hb_19, hb_25, hb_26, hb_28, hb_29, hb_31], b23⟩
        refine fw_kn 31 rfl (not_of hb_26) ?_
        refine fw_pu rfl ?_
        refine fw_ld r24 rfl rfl ?_
        refine fw_ex 34 (.bool (!(isE m.us))) rfl rfl rfl (fun a h => (run_binOp (h.ev rfl) (h.ev rfl) (eqStrG _ _ _ _ _ _) (strNeE _ _))) ?_
        iterate 2 refine fw_pu rfl ?_
        refine fw_dt ?_
        rcases Bool.eq_false_or_eq_true ((isE m.us)) with hb_33 | hb_33
        · skip
          refine fw_cF rfl (not_of hb_33) ?_
          refine fw_sk ?_
          refine ⟨fun a h => ?_⟩
          refine ow_then (hK20 _ _ ?_)
          refine wpSpine_seq rfl fun K hK34 => ?_
          refine fw_in h ?_
          refine fw_sq ?_
          refine fw_rg rfl ?_
          refine fw_pu rfl ?_
          refine fw_ld r24 rfl rfl ?_
          iterate 3 refine fw_pu rfl ?_
          rcases Bool.eq_false_or_eq_true ((decide (64 < (m.pa.size : Int)))) with hb_35 | hb_35
          · skip
            refine fw_kn 41 rfl hb_35 ?_
            iterate 18 refine fw_pu rfl ?_
            refine fw_dt ?_
            refine fw_cT rfl rfl ?_
            refine fw_go ?_
            refine ⟨fun a h => ?_⟩
            refine ow_then_goto (ow_jump (HJ _ _ ?_))
            refine fw_in h ?_
            refine fw_sq ?_
            refine fw_rg rfl ?_
            iterate 2 refine fw_pu rfl ?_
            refine fw_dt ?_
            refine fw_rt ?_
            refine ⟨fun a h => ?_⟩
            refine ow_nogoto_ret ?_
            exact ow_ret1 rfl h.df (h.g 2 rfl) ⟨by (try unfold cnG); simp [hb_12, hb_13, hb_14, hb_19, hb_25, hb_26, hb_33, hb_35], b23⟩
          refine fw_kn 41 rfl hb_35 ?_
          refine fw_pu rfl ?_
          refine fw_ld r24 rfl rfl ?_
          iterate 2 refine fw_pu rfl ?_
          rcases Bool.eq_false_or_eq_true (m.hp) with hb_36 | hb_36
          · skip
            refine fw_kn 45 rfl (not_of hb_36) ?_
            iterate 7 refine fw_pu rfl ?_
            refine fw_ld r24 rfl rfl ?_
            refine fw_pu rfl ?_
            refine fw_kn 54 rfl hb_36 ?_
            refine fw_pu rfl ?_
            refine fw_ld r24 rfl rfl ?_
            iterate 3 refine fw_pu rfl ?_
            refine fw_dt ?_
            refine fw_cT rfl (not_of hb_26) ?_
            refine fw_go ?_
            refine ⟨fun a h => ?_⟩
            refine ow_then_goto (ow_jump (HJ _ _ ?_))
            refine fw_in h ?_
            refine fw_sq ?_
            refine fw_rg rfl ?_
            iterate 2 refine fw_pu rfl ?_
            refine fw_dt ?_
            refine fw_rt ?_
            refine ⟨fun a h => ?_⟩
            refine ow_nogoto_ret ?_
            exact ow_ret1 rfl h.df (h.g 2 rfl) ⟨by (try unfold cnG); simp [hb_12, hb_13, hb_14, hb_19, hb_25, hb_26, hb_33, hb_35, hb_36], b23⟩
          refine fw_kn 45 rfl (not_of hb_36) ?_
          refine fw_pu rfl ?_
          refine fw_ld r24 rfl rfl ?_
          refine fw_ex 48 (.bool (!(isE m.pa))) rfl rfl rfl (fun a h => (run_binOp (h.ev rfl) (h.ev rfl) (eqStrG _ _ _ _ _ _) (strNeE _ _))) ?_
          iterate 3 refine fw_pu rfl ?_
          rcases Bool.eq_false_or_eq_true ((isE m.pa)) with hb_37 | hb_37
          · skip
            refine fw_kn 51 rfl (not_of hb_37) ?_
            refine fw_pu rfl ?_
            refine fw_ld r24 rfl rfl ?_
            refine fw_pu rfl ?_
            refine fw_kn 54 rfl hb_36 ?_
            iterate 5 refine fw_pu rfl ?_
            refine fw_dt ?_
            refine fw_cF rfl rfl ?_
            refine fw_sk ?_
            refine ⟨fun a h => ?_⟩
            refine ow_then (hK34 _ _ ?_)
            refine wpSpine_seq rfl fun K hK38 => ?_
            refine fw_in h ?_
            refine fw_rg rfl ?_
            refine fw_pu rfl ?_
            refine fw_dn ?_
            refine ⟨fun a h => ?_⟩
            refine ow_then (hK38 _ _ ?_)
            refine wpSpine_label (HJ _ _ ?_)
            refine fw_in h ?_
            refine fw_sq ?_
            refine fw_rg rfl ?_
            iterate 2 refine fw_pu rfl ?_
            refine fw_dt ?_
            refine fw_rt ?_
            refine ⟨fun a h => ?_⟩
            refine ow_nogoto_ret ?_
            exact ow_ret1 rfl h.df (h.g 2 rfl) ⟨by (try unfold cnG); simp [hb_12, hb_13, hb_14, hb_19, hb_25, hb_26, hb_33, hb_35, hb_36, hb_37], b23⟩
          refine fw_kn 51 rfl (not_of hb_37) ?_
          iterate 8 refine fw_pu rfl ?_
          refine fw_dt ?_
          refine fw_cT rfl rfl ?_
          refine fw_go ?_
          refine ⟨fun a h => ?_⟩
          refine ow_then_goto (ow_jump (HJ _ _ ?_))
          refine fw_in h ?_
          refine fw_sq ?_
          refine fw_rg rfl ?_
          iterate 2 refine fw_pu rfl ?_
          refine fw_dt ?_
          refine fw_rt ?_
          refine ⟨fun a h => ?_⟩
          refine ow_nogoto_ret ?_
          exact ow_ret1 rfl h.df (h.g 2 rfl) ⟨by (try unfold cnG); simp [hb_12, hb_13, hb_14, hb_19, hb_25, hb_26, hb_33, hb_35, hb_36, hb_37], b23⟩
        refine fw_cT rfl (not_of hb_33) ?_
        refine fw_go ?_
        refine ⟨fun a h => ?_⟩
        refine ow_then_goto (ow_jump (HJ _ _ ?_))
        refine fw_in h ?_
        refine fw_sq ?_
        refine fw_rg rfl ?_
        iterate 2 refine fw_pu rfl ?_
        refine fw_dt ?_
        refine fw_rt ?_
        refine ⟨fun a h => ?_⟩
        refine ow_nogoto_ret ?_
        exact ow_ret1 rfl h.df (h.g 2 rfl) ⟨by (try unfold cnG); simp [hb_12, hb_13, hb_14, hb_19, hb_25, hb_26, hb_33], b23⟩
      refine fw_kn 27 rfl (not_of hb_25) ?_
      iterate 9 refine fw_pu rfl ?_
      refine fw_dt ?_
      refine fw_cT rfl rfl ?_
      refine fw_go ?_
      refine ⟨fun a h => ?_⟩
      refine ow_then_goto (ow_jump (HJ _ _ ?_))
      refine fw_in h ?_
      refine fw_sq ?_
      refine fw_rg rfl ?_
      iterate 2 refine fw_pu rfl ?_
      refine fw_dt ?_
      refine fw_rt ?_
      refine ⟨fun a h => ?_⟩
      refine ow_nogoto_ret ?_
      exact ow_ret1 rfl h.df (h.g 2 rfl) ⟨by (try unfold cnG); simp [hb_12, hb_13, hb_14, hb_19, hb_25], b23⟩
    refine fw_cT rfl (not_of hb_19) ?_
    refine fw_go ?_
    refine ⟨fun a h => ?_⟩
    refine ow_then_goto (ow_jump (HJ _ _ ?_))
    refine fw_in h ?_
    refine fw_sq ?_
    refine fw_rg rfl ?_
    iterate 2 refine fw_pu rfl ?_
    refine fw_dt ?_
    refine fw_rt ?_
    refine ⟨fun a h => ?_⟩
    refine ow_nogoto_ret ?_
    exact ow_ret1 rfl h.df (h.g 2 rfl) ⟨by (try unfold cnG); simp [hb_12, hb_13, hb_14, hb_19], b17⟩
  refine fw_kn 7 rfl (not_of hb_12) ?_
  iterate 15 refine fw_pu rfl ?_
  refine fw_dt ?_
  refine fw_cT rfl rfl ?_
  refine fw_go ?_
  refine ⟨fun a h => ?_⟩
  refine ow_then_goto (ow_jump (HJ _ _ ?_))
  refine fw_in h ?_
  refine fw_sq ?_
  refine fw_rg rfl ?_
  iterate 2 refine fw_pu rfl ?_
  refine fw_dt ?_
  refine fw_rt ?_
  refine ⟨fun a h => ?_⟩
  refine ow_nogoto_ret ?_
  exact ow_ret1 rfl h.df (h.g 2 rfl) ⟨by (try unfold cnG); simp [hb_12], b10⟩
abbrev E0 : ByteArray := { data := #[] }
theorem E0_list : E0.toList = [] := ba_nil
theorem nil_dec {α : Type} [DecidableEq α] (l : List α) : decide (([] : List α) = l) = (((l.length : Nat) : Int) == 0) := by cases l <;> simp <;> omega
theorem nl_beq (l : List UInt8) : (([] : List UInt8) == l) = (l == []) := by cases l <;> rfl
theorem z_beq (n : Int) : ((0 : Int) == n) = (n == 0) := by rw [Bool.eq_iff_iff, beq_iff_eq, beq_iff_eq]; exact eq_comm
theorem f_beq (b : Bool) : (false == b) = !b := by cases b <;> rfl
/-- What holds of a packet of its kind. -/
def vaG (m : Mq) : Bool :=
  if m.k == 1 then cnG m else if m.k == 2 then decide (0 ≤ m.code) && (decide (m.code ≤ 5) && (!m.pres || m.code == 0)) else if m.k == 3 then pbG m
  else if (m.k == 4 || m.k == 5 || m.k == 6 || m.k == 7 || m.k == 11) then idG m.id
  else if m.k == 8 then idG m.id && (ctG m.ws.length && wsG m.ws) else if m.k == 9 then idG m.id && (ctG m.cs.length && csG m.cs) else if m.k == 10 then idG m.id && (ctG m.fs.length && fsG m.fs)
  else (m.k == 12 || m.k == 13 || m.k == 14)
/-- Without the fields of its kind. -/
def stG (m : Mq) : Mq :=
  if m.k == 1 then { m with cl := E0, clean := false, keep := 0, wI := false, wT := E0, wP := E0, wQ := 0, wR := false, us := E0, hu := false, pa := E0, hp := false }
  else if m.k == 2 then { m with pres := false, code := 0 }
  else if m.k == 3 then { m with top := E0, q := 0, re := false, pay := E0, dup := false, id := 0 }
  else if (m.k == 4 || m.k == 5 || m.k == 6 || m.k == 7 || m.k == 11) then { m with id := 0 }
  else if m.k == 8 then { m with id := 0, ws := [] } else if m.k == 9 then { m with id := 0, cs := [] } else if m.k == 10 then { m with id := 0, fs := [] }
  else m
def baG (m : Mq) : Bool := (stG m).noB
def mayG (m : Mq) : Bool := vaG m && baG m
theorem nilL (W : World) (n : Nat) : SlR W n (.slice none 0 0) [] := ⟨none, 0, rfl, Nat.le_refl _, Nat.zero_le _, fun _ => rfl, fun h => (h rfl).elim⟩
set_option maxRecDepth 100000 in
set_option maxHeartbeats 4000000 in
theorem validWishesG (l : List EWish) (a : Option Addr) (n c : Nat) (w : World) (hS : SlR w 2 (.slice a n c) (l.map rowWish)) (hl : l.length ≤ far) (hB : ∀ s ∈ l, s.f.size ≤ far) (hT : Tabs w) :
    Calls Tryd.prog 83 #[.slice a n c] w fun e w' => e = .returned (.bool (wsG l)) ∧ Below w.heap.size w w' := by
  obtain rfl : n = l.length := by have := slR_len hS; simpa using this
  have hb0 := Below.refl w.heap.size w
  have hl0 : l.length ≤ 140737488351232 := hl
  refine fw_en 22 [(0, .slice a l.length c)] Tryd.func83 rfl Tryd.ntmps83 rfl ⟨rfl, trivial⟩ ?_
  refine fw_sq ?_
  refine fw_rg rfl ?_
  refine fw_pu rfl ?_
  refine fw_dt ?_
  refine fw_sq ?_
  refine fw_sq ?_
  refine fw_rg rfl ?_
  iterate 3 refine fw_pu rfl ?_
  refine fw_dt ?_
  refine fw_bk ?_
  refine fw_lp (fun N K W => ∃ (i : Nat), N = l.length - i ∧ i ≤ l.length ∧ (l.take i).all wishG = true ∧ K = [(5, .slice a l.length c), (6, .int .i64 ((l.length : Nat) : Int)), (7, .int .i64 ((i : Nat) : Int))] ∧ Below w.heap.size w W) _ _ ⟨0, rfl, Nat.zero_le _, rfl, rfl, hb0⟩ ⟨rfl, rfl, (by first | rfl | (simp only [Look, cond, Nat.beq]; first | rfl | (congr 2; first | rfl | omega | (push_cast; omega)) | (simp; try omega))), trivial⟩ ?_
  rintro N _ W1 ⟨i, rfl, hil, hall, rfl, bW1⟩
  intro K3 hK3
  refine fw_sq ?_
  refine fw_rg rfl ?_
  refine fw_pu rfl ?_
  refine fw_dt ?_
  refine fw_sq ?_
  rcases Bool.eq_false_or_eq_true ((decide (((i : Nat) : Int) < ((l.length : Nat) : Int)))) with hb_4 | hb_4
  · skip
    refine fw_cT rfl hb_4 ?_
    refine fw_sk ?_
    refine fw_th ?_
    refine fw_sq ?_
    refine fw_bk ?_
    refine fw_sq ?_
    have hiL : i < l.length := by have h := of_decide_eq_true hb_4; omega
    obtain ⟨x0, hx0⟩ : ∃ p, l[i]? = some p := ⟨_, List.getElem?_eq_getElem hiL⟩
    obtain ⟨bP, oP, rfl, hbP, hcP⟩ := slR_at hS (i := i) (q := rowWish x0) (by rw [List.getElem?_map, hx0]; rfl)
    have hsz := hB x0 (List.mem_of_getElem? hx0)
    have hsz0 : x0.f.size ≤ 140737488351232 := hsz
    refine fw_rg rfl ?_
    refine fw_ex 9 (.pointer (some ⟨bP, (oP + i * 2), none⟩)) rfl rfl rfl (fun a h => (run_indexOp (h.ev rfl) (h.ev rfl) (idxWs _ _ _ _ _ hiL _))) ?_
    refine fw_ex 10 (.agg #[.string x0.f, .int .i64 x0.q]) rfl rfl rfl (fun a h => (run_loadOp (h.ev rfl) (ldW2 (fun j u hj => (Below.cell bW1 (p := ⟨bP, oP + i * 2 + j, none⟩) hbP).trans (hcP j u hj))))) ?_
    refine fw_al (t := 93) (u := fun q => .pointer (some ⟨q, 0, none⟩)) 4 [.string { data := #[] }, .int .i64 0] rfl rfl rfl (fun a h => (run_allocOp (by simp [go_sem, Instr.alloc]))) ?_
    intro q5 W6 g9 s7 r8
    have := Nat.le_trans bW1.size g9
    have b10 := bW1.trans (s7.mono bW1.size)
    refine fw_st r8 rfl rfl ?_
    intro W11 s12 r13
    have b14 := below_chg b10 s12 (by omega) b10.size
    refine fw_dt ?_
    refine fw_sq ?_
    refine fw_rg rfl ?_
    refine fw_pu rfl ?_
    refine fw_ld r13 rfl rfl ?_
    refine fw_ca Tryd.func96 rfl rfl rfl ((isTextG x0.f 1 64 W11 (by omega) (hT.below b14))) ?_
    rintro _ V16 ⟨rfl, hb15⟩
    refine ⟨(.bool (txG x0.f 1 64)), rfl, ?_⟩
    have b17 := b14.trans (hb15.mono b14.size)
    have r18 := r13.below hb15
    iterate 2 refine fw_pu rfl ?_
    rcases Bool.eq_false_or_eq_true ((txG x0.f 1 64)) with hb_19 | hb_19
    · skip
      refine fw_kn 15 rfl (not_of hb_19) ?_
      refine fw_pu rfl ?_
      refine fw_ld r18 rfl rfl ?_
      refine fw_ca Tryd.func99 rfl rfl rfl ((isQoSG x0.q V16)) ?_
      rintro _ _ ⟨rfl, rfl⟩
      refine ⟨(.bool (qsG x0.q)), rfl, ?_⟩
      iterate 2 refine fw_pu rfl ?_
      refine fw_dt ?_
      rcases Bool.eq_false_or_eq_true ((qsG x0.q)) with hb_20 | hb_20
      · skip
        refine fw_cF rfl (not_of hb_20) ?_
        refine fw_sk ?_
        refine fw_bn ?_
        refine fw_th ?_
        refine fw_rg rfl ?_
        refine fw_ex 21 (.int .i64 (((i + 1) : Nat) : Int)) rfl rfl rfl (fun a h => (run_binOp (h.ev rfl) (h.ev rfl) (by simp [go_sem]) (addIw _ _ _ _ (by omega) (by omega) (by omega)))) ?_
        refine fw_pu rfl ?_
        refine fw_dn ?_
        exact fw_th (fw_gf (hK3 _ _ _ (by omega) ⟨(i + 1), rfl, hiL, (all_take hall hx0 (by unfold wishG; simp [hb_19, hb_20])), rfl, b17⟩) ⟨(by first | rfl | (simp only [Look, cond, Nat.beq]; first | rfl | (congr 2; first | rfl | omega | (push_cast; omega)) | (simp; try omega))), rfl, (by first | rfl | (simp only [Look, cond, Nat.beq]; first | rfl | (congr 2; first | rfl | omega | (push_cast; omega)) | (simp; try omega))), trivial⟩)
      refine fw_cT rfl (not_of hb_20) ?_
      refine fw_sq ?_
      refine fw_rg rfl ?_
      refine fw_pu rfl ?_
      refine fw_dt ?_
      refine fw_rt ?_
      refine fw_br ?_
      iterate 2 refine fw_tr ?_
      refine fw_br ?_
      refine fw_tr ?_
      refine ⟨fun a h => ?_⟩
      exact ow_ret1 rfl h.df (h.g 2 rfl) ⟨by unfold wsG; rw [all_no hx0 (by unfold wishG; simp [hb_19, hb_20])], b17⟩
    refine fw_kn 15 rfl (not_of hb_19) ?_
    iterate 5 refine fw_pu rfl ?_
    refine fw_dt ?_
    refine fw_cT rfl rfl ?_
    refine fw_sq ?_
    refine fw_rg rfl ?_
    refine fw_pu rfl ?_
    refine fw_dt ?_
    refine fw_rt ?_
    refine fw_br ?_
    iterate 2 refine fw_tr ?_
    refine fw_br ?_
    refine fw_tr ?_
    refine ⟨fun a h => ?_⟩
    exact ow_ret1 rfl h.df (h.g 2 rfl) ⟨by unfold wsG; rw [all_no hx0 (by unfold wishG; simp [hb_19])], b17⟩
  refine fw_cF rfl hb_4 ?_
  refine fw_xt ?_
  refine fw_te ?_
  refine fw_te ?_
  refine fw_be ?_
  refine fw_th ?_
  refine fw_sq ?_
  refine fw_rg rfl ?_
  refine fw_pu rfl ?_
  refine fw_dt ?_
  refine fw_rt ?_
  refine ⟨fun a h => ?_⟩
  have hi : i = l.length := by have h := of_decide_eq_false hb_4; omega
  rw [hi, List.take_length] at hall
  exact ow_ret1 rfl h.df (h.g 2 rfl) ⟨by unfold wsG; rw [hall], bW1⟩
set_option maxRecDepth 100000 in
set_option maxHeartbeats 4000000 in
theorem validCodesG (l : List Int) (a : Option Addr) (n c : Nat) (w : World) (hS : SlR w 1 (.slice a n c) (l.map cn)) (hl : l.length ≤ far) :
    Calls Tryd.prog 84 #[.slice a n c] w fun e w' => e = .returned (.bool (csG l)) ∧ Below w.heap.size w w' := by
  obtain rfl : n = l.length := by have := slR_len hS; simpa using this
  have hb0 := Below.refl w.heap.size w
  have hl0 : l.length ≤ 140737488351232 := hl
  refine fw_en 19 [(0, .slice a l.length c)] Tryd.func84 rfl Tryd.ntmps84 rfl ⟨rfl, trivial⟩ ?_
  refine fw_sq ?_
  refine fw_rg rfl ?_
  refine fw_pu rfl ?_
  refine fw_dt ?_
  refine fw_sq ?_
  refine fw_sq ?_
  refine fw_rg rfl ?_
  iterate 3 refine fw_pu rfl ?_
  refine fw_dt ?_
  refine fw_bk ?_
  refine fw_lp (fun N K W => ∃ (i : Nat), N = l.length - i ∧ i ≤ l.length ∧ (l.take i).all codeG = true ∧ K = [(5, .slice a l.length c), (6, .int .i64 ((l.length : Nat) : Int)), (7, .int .i64 ((i : Nat) : Int))] ∧ Below w.heap.size w W) _ _ ⟨0, rfl, Nat.zero_le _, rfl, rfl, hb0⟩ ⟨rfl, rfl, (by first | rfl | (simp only [Look, cond, Nat.beq]; first | rfl | (congr 2; first | rfl | omega | (push_cast; omega)) | (simp; try omega))), trivial⟩ ?_
  rintro N _ W1 ⟨i, rfl, hil, hall, rfl, bW1⟩
  intro K3 hK3
  refine fw_sq ?_
  refine fw_rg rfl ?_
  refine fw_pu rfl ?_
  refine fw_dt ?_
  refine fw_sq ?_
  rcases Bool.eq_false_or_eq_true ((decide (((i : Nat) : Int) < ((l.length : Nat) : Int)))) with hb_4 | hb_4
  · skip
    refine fw_cT rfl hb_4 ?_
    refine fw_sk ?_
    refine fw_th ?_
    refine fw_sq ?_
    refine fw_bk ?_
    refine fw_sq ?_
    have hiL : i < l.length := by have h := of_decide_eq_true hb_4; omega
    obtain ⟨x0, hx0⟩ : ∃ p, l[i]? = some p := ⟨_, List.getElem?_eq_getElem hiL⟩
    obtain ⟨bP, oP, rfl, hbP, hcP⟩ := slR_at hS (i := i) (q := cn x0) (by rw [List.getElem?_map, hx0]; rfl)
    refine fw_rg rfl ?_
    refine fw_ex 9 (.pointer (some ⟨bP, (oP + i * 1), none⟩)) rfl rfl rfl (fun a h => (run_indexOp (h.ev rfl) (h.ev rfl) (idxIs _ _ _ _ _ hiL _))) ?_
    refine fw_ex 10 (.int .i64 x0) rfl rfl rfl (fun a h => (run_loadOp (h.ev rfl) (ldI1 ((Below.cell bW1 (p := ⟨bP, oP + i * 1, none⟩) hbP).trans (hcP 0 _ rfl))))) ?_
    refine fw_pu rfl ?_
    refine fw_dt ?_
    refine fw_sq ?_
    refine fw_rg rfl ?_
    refine fw_pu rfl ?_
    refine fw_ca Tryd.func99 rfl rfl rfl ((isQoSG x0 W1)) ?_
    rintro _ _ ⟨rfl, rfl⟩
    refine ⟨(.bool (qsG x0)), rfl, ?_⟩
    iterate 2 refine fw_pu rfl ?_
    rcases Bool.eq_false_or_eq_true ((qsG x0)) with hb_5 | hb_5
    · skip
      refine fw_kn 14 rfl (not_of hb_5) ?_
      iterate 3 refine fw_pu rfl ?_
      refine fw_dt ?_
      refine fw_cF rfl rfl ?_
      refine fw_sk ?_
      refine fw_bn ?_
      refine fw_th ?_
      refine fw_rg rfl ?_
      refine fw_ex 18 (.int .i64 (((i + 1) : Nat) : Int)) rfl rfl rfl (fun a h => (run_binOp (h.ev rfl) (h.ev rfl) (by simp [go_sem]) (addIw _ _ _ _ (by omega) (by omega) (by omega)))) ?_
      refine fw_pu rfl ?_
      refine fw_dn ?_
      exact fw_th (fw_gf (hK3 _ _ _ (by omega) ⟨(i + 1), rfl, hiL, (all_take hall hx0 (by unfold codeG; simp [hb_5])), rfl, bW1⟩) ⟨(by first | rfl | (simp only [Look, cond, Nat.beq]; first | rfl | (congr 2; first | rfl | omega | (push_cast; omega)) | (simp; try omega))), rfl, (by first | rfl | (simp only [Look, cond, Nat.beq]; first | rfl | (congr 2; first | rfl | omega | (push_cast; omega)) | (simp; try omega))), trivial⟩)
    refine fw_kn 14 rfl (not_of hb_5) ?_
    iterate 3 refine fw_pu rfl ?_
    refine fw_dt ?_
    rcases Bool.eq_false_or_eq_true ((x0 == 128)) with hb_6 | hb_6
    · skip
      refine fw_cF rfl (not_of hb_6) ?_
      refine fw_sk ?_
      refine fw_bn ?_
      refine fw_th ?_
      refine fw_rg rfl ?_
      refine fw_ex 18 (.int .i64 (((i + 1) : Nat) : Int)) rfl rfl rfl (fun a h => (run_binOp (h.ev rfl) (h.ev rfl) (by simp [go_sem]) (addIw _ _ _ _ (by omega) (by omega) (by omega)))) ?_
      refine fw_pu rfl ?_
      refine fw_dn ?_
      exact fw_th (fw_gf (hK3 _ _ _ (by omega) ⟨(i + 1), rfl, hiL, (all_take hall hx0 (by unfold codeG; simp [hb_5, hb_6])), rfl, bW1⟩) ⟨(by first | rfl | (simp only [Look, cond, Nat.beq]; first | rfl | (congr 2; first | rfl | omega | (push_cast; omega)) | (simp; try omega))), rfl, (by first | rfl | (simp only [Look, cond, Nat.beq]; first | rfl | (congr 2; first | rfl | omega | (push_cast; omega)) | (simp; try omega))), trivial⟩)
    refine fw_cT rfl (not_of hb_6) ?_
    refine fw_sq ?_
    refine fw_rg rfl ?_
    refine fw_pu rfl ?_
    refine fw_dt ?_
    refine fw_rt ?_
    refine fw_br ?_
    iterate 2 refine fw_tr ?_
    refine fw_br ?_
    refine fw_tr ?_
    refine ⟨fun a h => ?_⟩
    exact ow_ret1 rfl h.df (h.g 2 rfl) ⟨by unfold csG; rw [all_no hx0 (by unfold codeG; simp [hb_5, hb_6])], bW1⟩
  refine fw_cF rfl hb_4 ?_
  refine fw_xt ?_
  refine fw_te ?_
  refine fw_te ?_
  refine fw_be ?_
  refine fw_th ?_
  refine fw_sq ?_
  refine fw_rg rfl ?_
  refine fw_pu rfl ?_
  refine fw_dt ?_
  refine fw_rt ?_
  refine ⟨fun a h => ?_⟩
  have hi : i = l.length := by have h := of_decide_eq_false hb_4; omega
  rw [hi, List.take_length] at hall
  exact ow_ret1 rfl h.df (h.g 2 rfl) ⟨by unfold csG; rw [hall], bW1⟩
set_option maxRecDepth 100000 in
set_option maxHeartbeats 4000000 in
theorem validFiltersG (l : List ByteArray) (a : Option Addr) (n c : Nat) (w : World) (hS : SlR w 1 (.slice a n c) (l.map cs1)) (hl : l.length ≤ far) (hB : ∀ s ∈ l, s.size ≤ far) (hT : Tabs w) :
    Calls Tryd.prog 85 #[.slice a n c] w fun e w' => e = .returned (.bool (fsG l)) ∧ Below w.heap.size w w' := by
  obtain rfl : n = l.length := by have := slR_len hS; simpa using this
  have hb0 := Below.refl w.heap.size w
  have hl0 : l.length ≤ 140737488351232 := hl
  refine fw_en 15 [(0, .slice a l.length c)] Tryd.func85 rfl Tryd.ntmps85 rfl ⟨rfl, trivial⟩ ?_
  refine fw_sq ?_
  refine fw_rg rfl ?_
  refine fw_pu rfl ?_
  refine fw_dt ?_
  refine fw_sq ?_
  refine fw_sq ?_
  refine fw_rg rfl ?_
  iterate 3 refine fw_pu rfl ?_
  refine fw_dt ?_
  refine fw_bk ?_
  refine fw_lp (fun N K W => ∃ (i : Nat), N = l.length - i ∧ i ≤ l.length ∧ (l.take i).all filtG = true ∧ K = [(5, .slice a l.length c), (6, .int .i64 ((l.length : Nat) : Int)), (7, .int .i64 ((i : Nat) : Int))] ∧ Below w.heap.size w W) _ _ ⟨0, rfl, Nat.zero_le _, rfl, rfl, hb0⟩ ⟨rfl, rfl, (by first | rfl | (simp only [Look, cond, Nat.beq]; first | rfl | (congr 2; first | rfl | omega | (push_cast; omega)) | (simp; try omega))), trivial⟩ ?_
  rintro N _ W1 ⟨i, rfl, hil, hall, rfl, bW1⟩
  intro K3 hK3
  refine fw_sq ?_
  refine fw_rg rfl ?_
  refine fw_pu rfl ?_
  refine fw_dt ?_
  refine fw_sq ?_
  rcases Bool.eq_false_or_eq_true ((decide (((i : Nat) : Int) < ((l.length : Nat) : Int)))) with hb_4 | hb_4
  · skip
    refine fw_cT rfl hb_4 ?_
    refine fw_sk ?_
    refine fw_th ?_
    refine fw_sq ?_
    refine fw_bk ?_
    refine fw_sq ?_
    have hiL : i < l.length := by have h := of_decide_eq_true hb_4; omega
    obtain ⟨x0, hx0⟩ : ∃ p, l[i]? = some p := ⟨_, List.getElem?_eq_getElem hiL⟩
    obtain ⟨bP, oP, rfl, hbP, hcP⟩ := slR_at hS (i := i) (q := cs1 x0) (by rw [List.getElem?_map, hx0]; rfl)
    have hsz := hB x0 (List.mem_of_getElem? hx0)
    have hsz0 : x0.size ≤ 140737488351232 := hsz
    refine fw_rg rfl ?_
    refine fw_ex 9 (.pointer (some ⟨bP, (oP + i * 1), none⟩)) rfl rfl rfl (fun a h => (run_indexOp (h.ev rfl) (h.ev rfl) (idxSs _ _ _ _ _ hiL _))) ?_
    refine fw_ex 10 (.string x0) rfl rfl rfl (fun a h => (run_loadOp (h.ev rfl) (ldS1 ((Below.cell bW1 (p := ⟨bP, oP + i * 1, none⟩) hbP).trans (hcP 0 _ rfl))))) ?_
    refine fw_pu rfl ?_
    refine fw_dt ?_
    refine fw_sq ?_
    refine fw_rg rfl ?_
    refine fw_pu rfl ?_
    refine fw_ca Tryd.func96 rfl rfl rfl ((isTextG x0 1 64 W1 (by omega) (hT.below bW1))) ?_
    rintro _ V6 ⟨rfl, hb5⟩
    refine ⟨(.bool (txG x0 1 64)), rfl, ?_⟩
    have b7 := bW1.trans (hb5.mono bW1.size)
    refine fw_pu rfl ?_
    refine fw_dt ?_
    rcases Bool.eq_false_or_eq_true ((txG x0 1 64)) with hb_8 | hb_8
    · skip
      refine fw_cF rfl (not_of hb_8) ?_
      refine fw_sk ?_
      refine fw_bn ?_
      refine fw_th ?_
      refine fw_rg rfl ?_
      refine fw_ex 14 (.int .i64 (((i + 1) : Nat) : Int)) rfl rfl rfl (fun a h => (run_binOp (h.ev rfl) (h.ev rfl) (by simp [go_sem]) (addIw _ _ _ _ (by omega) (by omega) (by omega)))) ?_
      refine fw_pu rfl ?_
      refine fw_dn ?_
      exact fw_th (fw_gf (hK3 _ _ _ (by omega) ⟨(i + 1), rfl, hiL, (all_take hall hx0 (by unfold filtG; simp [hb_8])), rfl, b7⟩) ⟨(by first | rfl | (simp only [Look, cond, Nat.beq]; first | rfl | (congr 2; first | rfl | omega | (push_cast; omega)) | (simp; try omega))), rfl, (by first | rfl | (simp only [Look, cond, Nat.beq]; first | rfl | (congr 2; first | rfl | omega | (push_cast; omega)) | (simp; try omega))), trivial⟩)
    refine fw_cT rfl (not_of hb_8) ?_
    refine fw_sq ?_
    refine fw_rg rfl ?_
    refine fw_pu rfl ?_
    refine fw_dt ?_
    refine fw_rt ?_
    refine fw_br ?_
    iterate 2 refine fw_tr ?_
    refine fw_br ?_
    refine fw_tr ?_
    refine ⟨fun a h => ?_⟩
    exact ow_ret1 rfl h.df (h.g 2 rfl) ⟨by unfold fsG; rw [all_no hx0 (by unfold filtG; simp [hb_8])], b7⟩
  refine fw_cF rfl hb_4 ?_
  refine fw_xt ?_
  refine fw_te ?_
  refine fw_te ?_
  refine fw_be ?_
  refine fw_th ?_
  refine fw_sq ?_
  refine fw_rg rfl ?_
  refine fw_pu rfl ?_
  refine fw_dt ?_
  refine fw_rt ?_
  refine ⟨fun a h => ?_⟩
  have hi : i = l.length := by have h := of_decide_eq_false hb_4; omega
  rw [hi, List.take_length] at hall
  exact ow_ret1 rfl h.df (h.g 2 rfl) ⟨by unfold fsG; rw [hall], bW1⟩
theorem kNe {x a b : Int} (h : (x == a) = true) (hn : (a == b) = false) : (x == b) = false := by rw [beq_iff_eq.1 h]; exact hn
set_option maxRecDepth 100000 in
set_option maxHeartbeats 4000000 in
theorem validG (m : Mq) (ac aw af : Option Addr) (nc nw nf cc cw cf : Nat) (w : World) (hL : m.Lists w (.slice ac nc cc) (.slice aw nw cw) (.slice af nf cf)) (hF : m.Far) (hT : Tabs w) :
    Calls Tryd.prog 59 #[.agg (Mq.row m (.slice ac nc cc) (.slice aw nw cw) (.slice af nf cf)).toArray] w fun e w' => e = .returned (.bool (vaG m)) ∧ Below w.heap.size w w' := by
  obtain rfl : nc = m.cs.length := by have := slR_len hL.c; simpa using this
  obtain rfl : nw = m.ws.length := by have := slR_len hL.w; simpa using this
  obtain rfl : nf = m.fs.length := by have := slR_len hL.f; simpa using this
  have hb0 := Below.refl w.heap.size w
  have hF0 : m.cl.size ≤ 140737488351232 := hF.cl
  have hF1 : m.wT.size ≤ 140737488351232 := hF.wT
  have hF2 : m.wP.size ≤ 140737488351232 := hF.wP
  have hF3 : m.us.size ≤ 140737488351232 := hF.us
  have hF4 : m.pa.size ≤ 140737488351232 := hF.pa
  have hF5 : m.top.size ≤ 140737488351232 := hF.top
  have hF6 : m.pay.size ≤ 140737488351232 := hF.pay
  refine fw_en 94 [(0, .agg (Mq.row m (.slice ac m.cs.length cc) (.slice aw m.ws.length cw) (.slice af m.fs.length cf)).toArray)] Tryd.func59 rfl Tryd.ntmps59 rfl ⟨rfl, trivial⟩ ?_
  refine fw_sq ?_
  refine fw_rg rfl ?_
  refine fw_bx rfl (cs := [.int .i64 m.k, .string m.cl, .bool m.clean, .int .i64 m.keep, .bool m.wI, .string m.wT, .string m.wP, .int .i64 m.wQ, .bool m.wR, .string m.us, .bool m.hu, .string m.pa, .bool m.hp, .bool m.pres, .int .i64 m.code, .slice ac m.cs.length cc, .bool m.dup, .int .i64 m.q, .bool m.re, .string m.top, .int .i64 m.id, .string m.pay, .slice aw m.ws.length cw, .slice af m.fs.length cf]) rfl ?_
  intro q1 W2 g5 s3 r4
  have := Nat.le_trans hb0.size g5
  have b6 := hb0.trans (s3.mono hb0.size)
  refine fw_pu rfl ?_
  refine fw_dt ?_
  refine fw_sq ?_
  refine fw_sq ?_
  refine fw_rg rfl ?_
  refine fw_pu rfl ?_
  refine fw_ld r4 rfl rfl ?_
  refine fw_dt ?_
  refine fw_bk ?_
  refine fw_sq ?_
  refine fw_rg rfl ?_
  iterate 2 refine fw_pu rfl ?_
  refine fw_dt ?_
  rcases Bool.eq_false_or_eq_true ((m.k == 1)) with hb_7 | hb_7
  · skip
    refine fw_cT rfl hb_7 ?_
    refine fw_sq ?_
    refine fw_rg rfl ?_
    refine fw_ld r4 rfl rfl ?_
    refine fw_ca Tryd.func79 rfl rfl rfl ((validConnectG m ac aw af _ _ _ cc cw cf W2 hF (hT.below b6))) ?_
    rintro _ V9 ⟨rfl, hb8⟩
    refine ⟨(.bool (cnG m)), rfl, ?_⟩
    have b10 := b6.trans (hb8.mono b6.size)
    have r11 := r4.below hb8
    refine fw_pu rfl ?_
    refine fw_dt ?_
    refine fw_rt ?_
    refine fw_br ?_
    refine fw_tr ?_
    refine ⟨fun a h => ?_⟩
    exact ow_ret1 rfl h.df (h.g 2 rfl) ⟨by (try unfold vaG); simp [hb_7], b10⟩
  refine fw_cF rfl hb_7 ?_
  refine fw_sq ?_
  refine fw_rg rfl ?_
  iterate 2 refine fw_pu rfl ?_
  refine fw_dt ?_
  rcases Bool.eq_false_or_eq_true ((m.k == 2)) with hb_12 | hb_12
  · skip
    refine fw_cT rfl hb_12 ?_
    refine fw_sq ?_
    refine fw_rg rfl ?_
    refine fw_pu rfl ?_
    refine fw_ld r4 rfl rfl ?_
    iterate 2 refine fw_pu rfl ?_
    rcases Bool.eq_false_or_eq_true ((decide (0 ≤ m.code))) with hb_13 | hb_13
    · skip
      refine fw_kn 14 rfl hb_13 ?_
      refine fw_pu rfl ?_
      refine fw_ld r4 rfl rfl ?_
      iterate 3 refine fw_pu rfl ?_
      rcases Bool.eq_false_or_eq_true ((decide (m.code ≤ 5))) with hb_14 | hb_14
      · skip
        refine fw_kn 19 rfl hb_14 ?_
        refine fw_pu rfl ?_
        refine fw_ld r4 rfl rfl ?_
        iterate 2 refine fw_pu rfl ?_
        rcases Bool.eq_false_or_eq_true (m.pres) with hb_15 | hb_15
        · skip
          refine fw_kn 23 rfl (not_of hb_15) ?_
          refine fw_pu rfl ?_
          refine fw_ld r4 rfl rfl ?_
          iterate 4 refine fw_pu rfl ?_
          refine fw_dt ?_
          refine fw_rt ?_
          refine fw_br ?_
          refine fw_tr ?_
          refine ⟨fun a h => ?_⟩
          exact ow_ret1 rfl h.df (h.g 2 rfl) ⟨by (try unfold vaG); simp [hb_7, hb_12, hb_13, hb_14, hb_15], b6⟩
        refine fw_kn 23 rfl (not_of hb_15) ?_
        iterate 6 refine fw_pu rfl ?_
        refine fw_dt ?_
        refine fw_rt ?_
        refine fw_br ?_
        refine fw_tr ?_
        refine ⟨fun a h => ?_⟩
        exact ow_ret1 rfl h.df (h.g 2 rfl) ⟨by (try unfold vaG); simp [hb_7, hb_12, hb_13, hb_14, hb_15], b6⟩
      refine fw_kn 19 rfl hb_14 ?_
      iterate 10 refine fw_pu rfl ?_
      refine fw_dt ?_
      refine fw_rt ?_
      refine fw_br ?_
      refine fw_tr ?_
      refine ⟨fun a h => ?_⟩
      exact ow_ret1 rfl h.df (h.g 2 rfl) ⟨by (try unfold vaG); simp [hb_7, hb_12, hb_13, hb_14], b6⟩
    refine fw_kn 14 rfl hb_13 ?_
    iterate 15 refine fw_pu rfl ?_
    refine fw_dt ?_
    refine fw_rt ?_
    refine fw_br ?_
    refine fw_tr ?_
    refine ⟨fun a h => ?_⟩
    exact ow_ret1 rfl h.df (h.g 2 rfl) ⟨by (try unfold vaG); simp [hb_7, hb_12, hb_13], b6⟩
  refine fw_cF rfl hb_12 ?_
  refine fw_sq ?_
  refine fw_rg rfl ?_
  iterate 2 refine fw_pu rfl ?_
  refine fw_dt ?_
  rcases Bool.eq_false_or_eq_true ((m.k == 3)) with hb_16 | hb_16
  · skip
    refine fw_cT rfl hb_16 ?_
    refine fw_sq ?_
    refine fw_rg rfl ?_
    refine fw_ld r4 rfl rfl ?_
    refine fw_ca Tryd.func80 rfl rfl rfl ((validPublishG m ac aw af _ _ _ cc cw cf W2 hF (hT.below b6))) ?_
    rintro _ V18 ⟨rfl, hb17⟩
    refine ⟨(.bool (pbG m)), rfl, ?_⟩
    have b19 := b6.trans (hb17.mono b6.size)
    have r20 := r4.below hb17
    refine fw_pu rfl ?_
    refine fw_dt ?_
    refine fw_rt ?_
    refine fw_br ?_
    refine fw_tr ?_
    refine ⟨fun a h => ?_⟩
    exact ow_ret1 rfl h.df (h.g 2 rfl) ⟨by (try unfold vaG); simp [hb_7, hb_12, hb_16], b19⟩
  refine fw_cF rfl hb_16 ?_
  refine fw_sq ?_
  refine fw_sq ?_
  refine fw_rg rfl ?_
  iterate 2 refine fw_pu rfl ?_
  refine fw_dt ?_
  rcases Bool.eq_false_or_eq_true ((m.k == 4)) with hb_21 | hb_21
  · skip
    refine fw_cT rfl hb_21 ?_
    refine fw_sk ?_
    refine fw_th ?_
    refine fw_cT rfl hb_21 ?_
    refine fw_sq ?_
    refine fw_rg rfl ?_
    refine fw_pu rfl ?_
    refine fw_ld r4 rfl rfl ?_
    refine fw_ca Tryd.func81 rfl rfl rfl ((isIDG m.id W2)) ?_
    rintro _ _ ⟨rfl, rfl⟩
    refine ⟨(.bool (idG m.id)), rfl, ?_⟩
    refine fw_pu rfl ?_
    refine fw_dt ?_
    refine fw_rt ?_
    refine fw_br ?_
    refine fw_tr ?_
    refine ⟨fun a h => ?_⟩
    exact ow_ret1 rfl h.df (h.g 2 rfl) ⟨by (try unfold vaG); simp [hb_7, hb_12, hb_16, hb_21], b6⟩
  refine fw_cF rfl hb_21 ?_
  refine fw_sq ?_
  refine fw_rg rfl ?_
  iterate 2 refine fw_pu rfl ?_
  refine fw_dt ?_
  rcases Bool.eq_false_or_eq_true ((m.k == 5)) with hb_22 | hb_22
  · skip
    refine fw_cT rfl hb_22 ?_
    refine fw_sk ?_
    refine fw_th ?_
    refine fw_cT rfl hb_22 ?_
    refine fw_sq ?_
    refine fw_rg rfl ?_
    refine fw_pu rfl ?_
    refine fw_ld r4 rfl rfl ?_
    refine fw_ca Tryd.func81 rfl rfl rfl ((isIDG m.id W2)) ?_
    rintro _ _ ⟨rfl, rfl⟩
    refine ⟨(.bool (idG m.id)), rfl, ?_⟩
    refine fw_pu rfl ?_
    refine fw_dt ?_
    refine fw_rt ?_
    refine fw_br ?_
    refine fw_tr ?_
    refine ⟨fun a h => ?_⟩
    exact ow_ret1 rfl h.df (h.g 2 rfl) ⟨by (try unfold vaG); simp [hb_7, hb_12, hb_16, hb_21, hb_22], b6⟩
  refine fw_cF rfl hb_22 ?_
  refine fw_sq ?_
  refine fw_rg rfl ?_
  iterate 2 refine fw_pu rfl ?_
  refine fw_dt ?_
  rcases Bool.eq_false_or_eq_true ((m.k == 6)) with hb_23 | hb_23
  · skip
    refine fw_cT rfl hb_23 ?_
    refine fw_sk ?_
    refine fw_th ?_
    refine fw_cT rfl hb_23 ?_
    refine fw_sq ?_
    refine fw_rg rfl ?_
    refine fw_pu rfl ?_
    refine fw_ld r4 rfl rfl ?_
    refine fw_ca Tryd.func81 rfl rfl rfl ((isIDG m.id W2)) ?_
    rintro _ _ ⟨rfl, rfl⟩
    refine ⟨(.bool (idG m.id)), rfl, ?_⟩
    refine fw_pu rfl ?_
    refine fw_dt ?_
    refine fw_rt ?_
    refine fw_br ?_
    refine fw_tr ?_
    refine ⟨fun a h => ?_⟩
    exact ow_ret1 rfl h.df (h.g 2 rfl) ⟨by (try unfold vaG); simp [hb_7, hb_12, hb_16, hb_21, hb_22, hb_23], b6⟩
  refine fw_cF rfl hb_23 ?_
  refine fw_sq ?_
  refine fw_rg rfl ?_
  iterate 2 refine fw_pu rfl ?_
  refine fw_dt ?_
  rcases Bool.eq_false_or_eq_true ((m.k == 7)) with hb_24 | hb_24
  · skip
    refine fw_cT rfl hb_24 ?_
    refine fw_sk ?_
    refine fw_th ?_
    refine fw_cT rfl hb_24 ?_
    refine fw_sq ?_
    refine fw_rg rfl ?_
    refine fw_pu rfl ?_
    refine fw_ld r4 rfl rfl ?_
    refine fw_ca Tryd.func81 rfl rfl rfl ((isIDG m.id W2)) ?_
    rintro _ _ ⟨rfl, rfl⟩
    refine ⟨(.bool (idG m.id)), rfl, ?_⟩
    refine fw_pu rfl ?_
    refine fw_dt ?_
    refine fw_rt ?_
    refine fw_br ?_
    refine fw_tr ?_
    refine ⟨fun a h => ?_⟩
    exact ow_ret1 rfl h.df (h.g 2 rfl) ⟨by (try unfold vaG); simp [hb_7, hb_12, hb_16, hb_21, hb_22, hb_23, hb_24], b6⟩
  refine fw_cF rfl hb_24 ?_
  refine fw_rg rfl ?_
  iterate 2 refine fw_pu rfl ?_
  refine fw_dt ?_
  rcases Bool.eq_false_or_eq_true ((m.k == 11)) with hb_25 | hb_25
  · skip
    refine fw_cT rfl hb_25 ?_
    refine fw_sq ?_
    refine fw_rg rfl ?_
    refine fw_pu rfl ?_
    refine fw_ld r4 rfl rfl ?_
    refine fw_ca Tryd.func81 rfl rfl rfl ((isIDG m.id W2)) ?_
    rintro _ _ ⟨rfl, rfl⟩
    refine ⟨(.bool (idG m.id)), rfl, ?_⟩
    refine fw_pu rfl ?_
    refine fw_dt ?_
    refine fw_rt ?_
    refine fw_br ?_
    refine fw_tr ?_
    refine ⟨fun a h => ?_⟩
    exact ow_ret1 rfl h.df (h.g 2 rfl) ⟨by (try unfold vaG); simp [hb_7, hb_12, hb_16, hb_21, hb_22, hb_23, hb_24, hb_25], b6⟩
  refine fw_cF rfl hb_25 ?_
  refine fw_sq ?_
  refine fw_rg rfl ?_
  iterate 2 refine fw_pu rfl ?_
  refine fw_dt ?_
  rcases Bool.eq_false_or_eq_true ((m.k == 8)) with hb_26 | hb_26
  · skip
    refine fw_cT rfl hb_26 ?_
    refine fw_sq ?_
    refine fw_rg rfl ?_
    refine fw_pu rfl ?_
    refine fw_ld r4 rfl rfl ?_
    refine fw_ca Tryd.func81 rfl rfl rfl ((isIDG m.id W2)) ?_
    rintro _ _ ⟨rfl, rfl⟩
    refine ⟨(.bool (idG m.id)), rfl, ?_⟩
    refine fw_pu rfl ?_
    rcases Bool.eq_false_or_eq_true ((idG m.id)) with hb_27 | hb_27
    · skip
      refine fw_kn 47 rfl hb_27 ?_
      refine fw_pu rfl ?_
      refine fw_ld r4 rfl rfl ?_
      refine fw_pu rfl ?_
      refine fw_ca Tryd.func82 rfl rfl rfl ((isCountG ((m.ws.length : Nat) : Int) W2)) ?_
      rintro _ _ ⟨rfl, rfl⟩
      refine ⟨(.bool (ctG ((m.ws.length : Nat) : Int))), rfl, ?_⟩
      iterate 2 refine fw_pu rfl ?_
      rcases Bool.eq_false_or_eq_true ((ctG ((m.ws.length : Nat) : Int))) with hb_28 | hb_28
      · skip
        refine fw_kn 53 rfl hb_28 ?_
        refine fw_pu rfl ?_
        refine fw_ld r4 rfl rfl ?_
        refine fw_ca Tryd.func83 rfl rfl rfl ((validWishesG m.ws aw _ cw W2 (hL.w.below b6) hF.ws hF.wsf (hT.below b6))) ?_
        rintro _ V30 ⟨rfl, hb29⟩
        refine ⟨(.bool (wsG m.ws)), rfl, ?_⟩
        have b31 := b6.trans (hb29.mono b6.size)
        have r32 := r4.below hb29
        iterate 2 refine fw_pu rfl ?_
        refine fw_dt ?_
        refine fw_rt ?_
        refine fw_br ?_
        refine fw_tr ?_
        refine ⟨fun a h => ?_⟩
        exact ow_ret1 rfl h.df (h.g 2 rfl) ⟨by (try unfold vaG); simp [hb_7, hb_12, hb_16, hb_21, hb_22, hb_23, hb_24, hb_25, hb_26, hb_27, hb_28], b31⟩
      refine fw_kn 53 rfl hb_28 ?_
      iterate 5 refine fw_pu rfl ?_
      refine fw_dt ?_
      refine fw_rt ?_
      refine fw_br ?_
      refine fw_tr ?_
      refine ⟨fun a h => ?_⟩
      exact ow_ret1 rfl h.df (h.g 2 rfl) ⟨by (try unfold vaG); simp [hb_7, hb_12, hb_16, hb_21, hb_22, hb_23, hb_24, hb_25, hb_26, hb_27, hb_28], b6⟩
    refine fw_kn 47 rfl hb_27 ?_
    iterate 11 refine fw_pu rfl ?_
    refine fw_dt ?_
    refine fw_rt ?_
    refine fw_br ?_
    refine fw_tr ?_
    refine ⟨fun a h => ?_⟩
    exact ow_ret1 rfl h.df (h.g 2 rfl) ⟨by (try unfold vaG); simp [hb_7, hb_12, hb_16, hb_21, hb_22, hb_23, hb_24, hb_25, hb_26, hb_27], b6⟩
  refine fw_cF rfl hb_26 ?_
  refine fw_sq ?_
  refine fw_rg rfl ?_
  iterate 2 refine fw_pu rfl ?_
  refine fw_dt ?_
  rcases Bool.eq_false_or_eq_true ((m.k == 9)) with hb_33 | hb_33
  · skip
    refine fw_cT rfl hb_33 ?_
    refine fw_sq ?_
    refine fw_rg rfl ?_
    refine fw_pu rfl ?_
    refine fw_ld r4 rfl rfl ?_
    refine fw_ca Tryd.func81 rfl rfl rfl ((isIDG m.id W2)) ?_
    rintro _ _ ⟨rfl, rfl⟩
    refine ⟨(.bool (idG m.id)), rfl, ?_⟩
    refine fw_pu rfl ?_
    rcases Bool.eq_false_or_eq_true ((idG m.id)) with hb_34 | hb_34
    · skip
      refine fw_kn 63 rfl hb_34 ?_
      refine fw_pu rfl ?_
      refine fw_ld r4 rfl rfl ?_
      refine fw_pu rfl ?_
      refine fw_ca Tryd.func82 rfl rfl rfl ((isCountG ((m.cs.length : Nat) : Int) W2)) ?_
      rintro _ _ ⟨rfl, rfl⟩
      refine ⟨(.bool (ctG ((m.cs.length : Nat) : Int))), rfl, ?_⟩
      iterate 2 refine fw_pu rfl ?_
      rcases Bool.eq_false_or_eq_true ((ctG ((m.cs.length : Nat) : Int))) with hb_35 | hb_35
      · skip
        refine fw_kn 69 rfl hb_35 ?_
        refine fw_pu rfl ?_
        refine fw_ld r4 rfl rfl ?_
        refine fw_ca Tryd.func84 rfl rfl rfl ((validCodesG m.cs ac _ cc W2 (hL.c.below b6) hF.cs)) ?_
        rintro _ V37 ⟨rfl, hb36⟩
        refine ⟨(.bool (csG m.cs)), rfl, ?_⟩
        have b38 := b6.trans (hb36.mono b6.size)
        have r39 := r4.below hb36
        iterate 2 refine fw_pu rfl ?_
        refine fw_dt ?_
        refine fw_rt ?_
        refine fw_br ?_
        refine fw_tr ?_
        refine ⟨fun a h => ?_⟩
        exact ow_ret1 rfl h.df (h.g 2 rfl) ⟨by (try unfold vaG); simp [hb_7, hb_12, hb_16, hb_21, hb_22, hb_23, hb_24, hb_25, hb_26, hb_33, hb_34, hb_35], b38⟩
      refine fw_kn 69 rfl hb_35 ?_
      iterate 5 refine fw_pu rfl ?_
      refine fw_dt ?_
      refine fw_rt ?_
      refine fw_br ?_
      refine fw_tr ?_
      refine ⟨fun a h => ?_⟩
      exact ow_ret1 rfl h.df (h.g 2 rfl) ⟨by (try unfold vaG); simp [hb_7, hb_12, hb_16, hb_21, hb_22, hb_23, hb_24, hb_25, hb_26, hb_33, hb_34, hb_35], b6⟩
    refine fw_kn 63 rfl hb_34 ?_
    iterate 11 refine fw_pu rfl ?_
    refine fw_dt ?_
    refine fw_rt ?_
    refine fw_br ?_
    refine fw_tr ?_
    refine ⟨fun a h => ?_⟩
    exact ow_ret1 rfl h.df (h.g 2 rfl) ⟨by (try unfold vaG); simp [hb_7, hb_12, hb_16, hb_21, hb_22, hb_23, hb_24, hb_25, hb_26, hb_33, hb_34], b6⟩
  refine fw_cF rfl hb_33 ?_
  refine fw_sq ?_
  refine fw_rg rfl ?_
  iterate 2 refine fw_pu rfl ?_
  refine fw_dt ?_
  rcases Bool.eq_false_or_eq_true ((m.k == 10)) with hb_40 | hb_40
  · skip
    refine fw_cT rfl hb_40 ?_
    refine fw_sq ?_
    refine fw_rg rfl ?_
    refine fw_pu rfl ?_
    refine fw_ld r4 rfl rfl ?_
    refine fw_ca Tryd.func81 rfl rfl rfl ((isIDG m.id W2)) ?_
    rintro _ _ ⟨rfl, rfl⟩
    refine ⟨(.bool (idG m.id)), rfl, ?_⟩
    refine fw_pu rfl ?_
    rcases Bool.eq_false_or_eq_true ((idG m.id)) with hb_41 | hb_41
    · skip
      refine fw_kn 79 rfl hb_41 ?_
      refine fw_pu rfl ?_
      refine fw_ld r4 rfl rfl ?_
      refine fw_pu rfl ?_
      refine fw_ca Tryd.func82 rfl rfl rfl ((isCountG ((m.fs.length : Nat) : Int) W2)) ?_
      rintro _ _ ⟨rfl, rfl⟩
      refine ⟨(.bool (ctG ((m.fs.length : Nat) : Int))), rfl, ?_⟩
      iterate 2 refine fw_pu rfl ?_
      rcases Bool.eq_false_or_eq_true ((ctG ((m.fs.length : Nat) : Int))) with hb_42 | hb_42
      · skip
        refine fw_kn 85 rfl hb_42 ?_
        refine fw_pu rfl ?_
        refine fw_ld r4 rfl rfl ?_
        refine fw_ca Tryd.func85 rfl rfl rfl ((validFiltersG m.fs af _ cf W2 (hL.f.below b6) hF.fs hF.fsf (hT.below b6))) ?_
        rintro _ V44 ⟨rfl, hb43⟩
        refine ⟨(.bool (fsG m.fs)), rfl, ?_⟩
        have b45 := b6.trans (hb43.mono b6.size)
        have r46 := r4.below hb43
        iterate 2 refine fw_pu rfl ?_
        refine fw_dt ?_
        refine fw_rt ?_
        refine fw_br ?_
        refine fw_tr ?_
        refine ⟨fun a h => ?_⟩
        exact ow_ret1 rfl h.df (h.g 2 rfl) ⟨by (try unfold vaG); simp [hb_7, hb_12, hb_16, hb_21, hb_22, hb_23, hb_24, hb_25, hb_26, hb_33, hb_40, hb_41, hb_42], b45⟩
      refine fw_kn 85 rfl hb_42 ?_
      iterate 5 refine fw_pu rfl ?_
      refine fw_dt ?_
      refine fw_rt ?_
      refine fw_br ?_
      refine fw_tr ?_
      refine ⟨fun a h => ?_⟩
      exact ow_ret1 rfl h.df (h.g 2 rfl) ⟨by (try unfold vaG); simp [hb_7, hb_12, hb_16, hb_21, hb_22, hb_23, hb_24, hb_25, hb_26, hb_33, hb_40, hb_41, hb_42], b6⟩
    refine fw_kn 79 rfl hb_41 ?_
    iterate 11 refine fw_pu rfl ?_
    refine fw_dt ?_
    refine fw_rt ?_
    refine fw_br ?_
    refine fw_tr ?_
    refine ⟨fun a h => ?_⟩
    exact ow_ret1 rfl h.df (h.g 2 rfl) ⟨by (try unfold vaG); simp [hb_7, hb_12, hb_16, hb_21, hb_22, hb_23, hb_24, hb_25, hb_26, hb_33, hb_40, hb_41], b6⟩
  refine fw_cF rfl hb_40 ?_
  refine fw_sq ?_
  refine fw_sq ?_
  refine fw_rg rfl ?_
  iterate 2 refine fw_pu rfl ?_
  refine fw_dt ?_
  rcases Bool.eq_false_or_eq_true ((m.k == 12)) with hb_47 | hb_47
  · skip
    refine fw_cT rfl hb_47 ?_
    refine fw_sk ?_
    refine fw_th ?_
    refine fw_cT rfl hb_47 ?_
    refine fw_sq ?_
    refine fw_rg rfl ?_
    refine fw_pu rfl ?_
    refine fw_dt ?_
    refine fw_rt ?_
    refine fw_br ?_
    refine fw_tr ?_
    refine ⟨fun a h => ?_⟩
    exact ow_ret1 rfl h.df (h.g 2 rfl) ⟨by (try unfold vaG); simp [hb_7, hb_12, hb_16, hb_21, hb_22, hb_23, hb_24, hb_25, hb_26, hb_33, hb_40, hb_47], b6⟩
  refine fw_cF rfl hb_47 ?_
  refine fw_sq ?_
  refine fw_rg rfl ?_
  iterate 2 refine fw_pu rfl ?_
  refine fw_dt ?_
  rcases Bool.eq_false_or_eq_true ((m.k == 13)) with hb_48 | hb_48
  · skip
    refine fw_cT rfl hb_48 ?_
    refine fw_sk ?_
    refine fw_th ?_
    refine fw_cT rfl hb_48 ?_
    refine fw_sq ?_
    refine fw_rg rfl ?_
    refine fw_pu rfl ?_
    refine fw_dt ?_
    refine fw_rt ?_
    refine fw_br ?_
    refine fw_tr ?_
    refine ⟨fun a h => ?_⟩
    exact ow_ret1 rfl h.df (h.g 2 rfl) ⟨by (try unfold vaG); simp [hb_7, hb_12, hb_16, hb_21, hb_22, hb_23, hb_24, hb_25, hb_26, hb_33, hb_40, hb_47, hb_48], b6⟩
  refine fw_cF rfl hb_48 ?_
  refine fw_rg rfl ?_
  iterate 2 refine fw_pu rfl ?_
  refine fw_dt ?_
  rcases Bool.eq_false_or_eq_true ((m.k == 14)) with hb_49 | hb_49
  · skip
    refine fw_cT rfl hb_49 ?_
    refine fw_sq ?_
    refine fw_rg rfl ?_
    refine fw_pu rfl ?_
    refine fw_dt ?_
    refine fw_rt ?_
    refine fw_br ?_
    refine fw_tr ?_
    refine ⟨fun a h => ?_⟩
    exact ow_ret1 rfl h.df (h.g 2 rfl) ⟨by (try unfold vaG); simp [hb_7, hb_12, hb_16, hb_21, hb_22, hb_23, hb_24, hb_25, hb_26, hb_33, hb_40, hb_47, hb_48, hb_49], b6⟩
  refine fw_cF rfl hb_49 ?_
  refine fw_sk ?_
  refine fw_bn ?_
  refine fw_th ?_
  refine fw_sq ?_
  refine fw_rg rfl ?_
  refine fw_pu rfl ?_
  refine fw_dt ?_
  refine fw_rt ?_
  refine ⟨fun a h => ?_⟩
  exact ow_ret1 rfl h.df (h.g 2 rfl) ⟨by (try unfold vaG); simp [hb_7, hb_12, hb_16, hb_21, hb_22, hb_23, hb_24, hb_25, hb_26, hb_33, hb_40, hb_47, hb_48, hb_49], b6⟩
set_option maxRecDepth 100000 in
set_option maxHeartbeats 4000000 in
theorem bareG (m : Mq) (ac aw af : Option Addr) (nc nw nf cc cw cf : Nat) (w : World) (hL : m.Lists w (.slice ac nc cc) (.slice aw nw cw) (.slice af nf cf)) :
    Calls Tryd.prog 60 #[.agg (Mq.row m (.slice ac nc cc) (.slice aw nw cw) (.slice af nf cf)).toArray] w fun e w' => e = .returned (.bool (baG m)) ∧ Below w.heap.size w w' := by
  obtain rfl : nc = m.cs.length := by have := slR_len hL.c; simpa using this
  obtain rfl : nw = m.ws.length := by have := slR_len hL.w; simpa using this
  obtain rfl : nf = m.fs.length := by have := slR_len hL.f; simpa using this
  have hb0 := Below.refl w.heap.size w
  refine fw_en 51 [(0, .agg (Mq.row m (.slice ac m.cs.length cc) (.slice aw m.ws.length cw) (.slice af m.fs.length cf)).toArray)] Tryd.func60 rfl Tryd.ntmps60 rfl ⟨rfl, trivial⟩ ?_
  refine fw_sq ?_
  refine fw_rg rfl ?_
  refine fw_bx rfl (cs := [.int .i64 m.k, .string m.cl, .bool m.clean, .int .i64 m.keep, .bool m.wI, .string m.wT, .string m.wP, .int .i64 m.wQ, .bool m.wR, .string m.us, .bool m.hu, .string m.pa, .bool m.hp, .bool m.pres, .int .i64 m.code, .slice ac m.cs.length cc, .bool m.dup, .int .i64 m.q, .bool m.re, .string m.top, .int .i64 m.id, .string m.pay, .slice aw m.ws.length cw, .slice af m.fs.length cf]) rfl ?_
  intro q1 W2 g5 s3 r4
  have := Nat.le_trans hb0.size g5
  have b6 := hb0.trans (s3.mono hb0.size)
  refine fw_pu rfl ?_
  refine fw_dt ?_
  refine fw_sq ?_
  refine fw_rg rfl ?_
  refine fw_ld r4 rfl rfl ?_
  refine fw_al (t := 30) (u := fun q => .pointer (some ⟨q, 0, none⟩)) 3 [.int .i64 0, .string { data := #[] }, .bool false, .int .i64 0, .bool false, .string { data := #[] }, .string { data := #[] }, .int .i64 0, .bool false, .string { data := #[] }, .bool false, .string { data := #[] }, .bool false, .bool false, .int .i64 0, .slice none 0 0, .bool false, .int .i64 0, .bool false, .string { data := #[] }, .int .i64 0, .string { data := #[] }, .slice none 0 0, .slice none 0 0] rfl rfl rfl (fun a h => (run_allocOp (by simp [go_sem, Instr.alloc]))) ?_
  intro q7 W8 g11 s9 r10
  have := Nat.le_trans b6.size g11
  have := r4.lt g11
  have b12 := b6.trans (s9.mono b6.size)
  have r13 := r4.below s9
  refine fw_st r10 rfl rfl ?_
  intro W14 s15 r16
  have b17 := below_chg b12 s15 (by omega) b12.size
  have r18 := r13.chg s15 (by omega)
  replace r16 : RowAt W14 q7 (Mq.row m (.slice ac m.cs.length cc) (.slice aw m.ws.length cw) (.slice af m.fs.length cf)) := r16
  refine fw_dt ?_
  refine fw_sq ?_
  refine fw_sq ?_
  refine fw_rg rfl ?_
  refine fw_pu rfl ?_
  refine fw_ld r18 rfl rfl ?_
  refine fw_dt ?_
  refine fw_bk ?_
  refine fw_sq ?_
  refine fw_rg rfl ?_
  iterate 2 refine fw_pu rfl ?_
  refine fw_dt ?_
  rcases Bool.eq_false_or_eq_true ((m.k == 1)) with hb_19 | hb_19
  · skip
    refine fw_cT rfl hb_19 ?_
    refine fw_sq ?_
    refine fw_rg rfl ?_
    refine fw_ex 9 (.agg #[.bool false, .string { data := #[] }, .string { data := #[] }, .int .i64 0, .bool false]) rfl rfl rfl (fun a h => (run_buildOp (vs := #[]) (by simp) (by kernel_rfl))) ?_
    refine fw_pu rfl ?_
    refine fw_st r16 rfl rfl ?_
    intro W20 s21 r22
    have b23 := below_chg b17 s21 (by omega) b17.size
    have r24 := r18.chg s21 (by omega)
    replace r22 : RowAt W20 q7 (Mq.row ({ m with cl := { data := #[] } } : Mq) (.slice ac m.cs.length cc) (.slice aw m.ws.length cw) (.slice af m.fs.length cf)) := r22
    refine fw_pu rfl ?_
    refine fw_st r22 rfl rfl ?_
    intro W25 s26 r27
    have b28 := below_chg b23 s26 (by omega) b23.size
    have r29 := r24.chg s26 (by omega)
    replace r27 : RowAt W25 q7 (Mq.row ({ m with cl := { data := #[] }, clean := false } : Mq) (.slice ac m.cs.length cc) (.slice aw m.ws.length cw) (.slice af m.fs.length cf)) := r27
    refine fw_pu rfl ?_
    refine fw_st r27 rfl rfl ?_
    intro W30 s31 r32
    have b33 := below_chg b28 s31 (by omega) b28.size
    have r34 := r29.chg s31 (by omega)
    replace r32 : RowAt W30 q7 (Mq.row ({ m with cl := { data := #[] }, clean := false, keep := 0 } : Mq) (.slice ac m.cs.length cc) (.slice aw m.ws.length cw) (.slice af m.fs.length cf)) := r32
    refine fw_pu rfl ?_
    refine fw_st r32 rfl rfl ?_
    intro W35 s36 r37
    have b38 := below_chg b33 s36 (by omega) b33.size
    have r39 := r34.chg s36 (by omega)
    replace r37 : RowAt W35 q7 (Mq.row ({ m with cl := { data := #[] }, clean := false, keep := 0, wI := false, wT := { data := #[] }, wP := { data := #[] }, wQ := 0, wR := false } : Mq) (.slice ac m.cs.length cc) (.slice aw m.ws.length cw) (.slice af m.fs.length cf)) := r37
    refine fw_dt ?_
    refine fw_rg rfl ?_
    refine fw_pu rfl ?_
    refine fw_st r37 rfl rfl ?_
    intro W40 s41 r42
    have b43 := below_chg b38 s41 (by omega) b38.size
    have r44 := r39.chg s41 (by omega)
    replace r42 : RowAt W40 q7 (Mq.row ({ m with cl := { data := #[] }, clean := false, keep := 0, wI := false, wT := { data := #[] }, wP := { data := #[] }, wQ := 0, wR := false, us := { data := #[] } } : Mq) (.slice ac m.cs.length cc) (.slice aw m.ws.length cw) (.slice af m.fs.length cf)) := r42
    refine fw_pu rfl ?_
    refine fw_st r42 rfl rfl ?_
    intro W45 s46 r47
    have b48 := below_chg b43 s46 (by omega) b43.size
    have r49 := r44.chg s46 (by omega)
    replace r47 : RowAt W45 q7 [.int .i64 m.k, .string { data := #[] }, .bool false, .int .i64 0, .bool false, .string { data := #[] }, .string { data := #[] }, .int .i64 0, .bool false, .string { data := #[] }, .bool false, .string m.pa, .bool m.hp, .bool m.pres, .int .i64 m.code, .slice ac m.cs.length cc, .bool m.dup, .int .i64 m.q, .bool m.re, .string m.top, .int .i64 m.id, .string m.pay, .slice aw m.ws.length cw, .slice af m.fs.length cf] := r47
    refine fw_pu rfl ?_
    refine fw_st r47 rfl rfl ?_
    intro W50 s51 r52
    have b53 := below_chg b48 s51 (by omega) b48.size
    have r54 := r49.chg s51 (by omega)
    replace r52 : RowAt W50 q7 [.int .i64 m.k, .string { data := #[] }, .bool false, .int .i64 0, .bool false, .string { data := #[] }, .string { data := #[] }, .int .i64 0, .bool false, .string { data := #[] }, .bool false, .string { data := #[] }, .bool m.hp, .bool m.pres, .int .i64 m.code, .slice ac m.cs.length cc, .bool m.dup, .int .i64 m.q, .bool m.re, .string m.top, .int .i64 m.id, .string m.pay, .slice aw m.ws.length cw, .slice af m.fs.length cf] := r52
    refine fw_pu rfl ?_
    refine fw_st r52 rfl rfl ?_
    intro W55 s56 r57
    have b58 := below_chg b53 s56 (by omega) b53.size
    have r59 := r54.chg s56 (by omega)
    replace r57 : RowAt W55 q7 [.int .i64 m.k, .string { data := #[] }, .bool false, .int .i64 0, .bool false, .string { data := #[] }, .string { data := #[] }, .int .i64 0, .bool false, .string { data := #[] }, .bool false, .string { data := #[] }, .bool false, .bool m.pres, .int .i64 m.code, .slice ac m.cs.length cc, .bool m.dup, .int .i64 m.q, .bool m.re, .string m.top, .int .i64 m.id, .string m.pay, .slice aw m.ws.length cw, .slice af m.fs.length cf] := r57
    refine fw_dn ?_
    refine fw_bn ?_
    refine fw_th ?_
    refine fw_sq ?_
    refine fw_rg rfl ?_
    refine fw_ld r57 rfl rfl ?_
    refine fw_ca Tryd.func86 rfl rfl rfl ((nothing_any ({ m with cl := E0, clean := false, keep := 0, wI := false, wT := E0, wP := E0, wQ := 0, wR := false, us := E0, hu := false, pa := E0, hp := false } : Mq) _ _ _ W55 ⟨(hL.c.below b58), (hL.w.below b58), (hL.f.below b58)⟩)) ?_
    rintro _ V61 ⟨rfl, hb60⟩
    refine ⟨(.bool (({ m with cl := E0, clean := false, keep := 0, wI := false, wT := E0, wP := E0, wQ := 0, wR := false, us := E0, hu := false, pa := E0, hp := false } : Mq)).noB), rfl, ?_⟩
    have b62 := b58.trans (hb60.mono b58.size)
    have r63 := r59.below hb60
    have r64 := r57.below hb60
    refine fw_pu rfl ?_
    refine fw_dt ?_
    refine fw_rt ?_
    refine ⟨fun a h => ?_⟩
    exact ow_ret1 rfl h.df (h.g 2 rfl) ⟨by unfold baG stG; first | (simp [hb_19]; done) | simp [E0, hb_19], b62⟩
  refine fw_cF rfl hb_19 ?_
  refine fw_sq ?_
  refine fw_rg rfl ?_
  iterate 2 refine fw_pu rfl ?_
  refine fw_dt ?_
  rcases Bool.eq_false_or_eq_true ((m.k == 2)) with hb_65 | hb_65
  · skip
    refine fw_cT rfl hb_65 ?_
    refine fw_rg rfl ?_
    refine fw_pu rfl ?_
    refine fw_st r16 rfl rfl ?_
    intro W66 s67 r68
    have b69 := below_chg b17 s67 (by omega) b17.size
    have r70 := r18.chg s67 (by omega)
    replace r68 : RowAt W66 q7 (Mq.row ({ m with pres := false } : Mq) (.slice ac m.cs.length cc) (.slice aw m.ws.length cw) (.slice af m.fs.length cf)) := r68
    refine fw_pu rfl ?_
    refine fw_st r68 rfl rfl ?_
    intro W71 s72 r73
    have b74 := below_chg b69 s72 (by omega) b69.size
    have r75 := r70.chg s72 (by omega)
    replace r73 : RowAt W71 q7 (Mq.row ({ m with pres := false, code := 0 } : Mq) (.slice ac m.cs.length cc) (.slice aw m.ws.length cw) (.slice af m.fs.length cf)) := r73
    refine fw_dn ?_
    refine fw_bn ?_
    refine fw_th ?_
    refine fw_sq ?_
    refine fw_rg rfl ?_
    refine fw_ld r73 rfl rfl ?_
    refine fw_ca Tryd.func86 rfl rfl rfl ((nothing_any ({ m with pres := false, code := 0 } : Mq) _ _ _ W71 ⟨(hL.c.below b74), (hL.w.below b74), (hL.f.below b74)⟩)) ?_
    rintro _ V77 ⟨rfl, hb76⟩
    refine ⟨(.bool (({ m with pres := false, code := 0 } : Mq)).noB), rfl, ?_⟩
    have b78 := b74.trans (hb76.mono b74.size)
    have r79 := r75.below hb76
    have r80 := r73.below hb76
    refine fw_pu rfl ?_
    refine fw_dt ?_
    refine fw_rt ?_
    refine ⟨fun a h => ?_⟩
    exact ow_ret1 rfl h.df (h.g 2 rfl) ⟨by unfold baG stG; first | (simp [hb_19, hb_65]; done) | simp [E0, hb_19, hb_65], b78⟩
  refine fw_cF rfl hb_65 ?_
  refine fw_sq ?_
  refine fw_rg rfl ?_
  iterate 2 refine fw_pu rfl ?_
  refine fw_dt ?_
  rcases Bool.eq_false_or_eq_true ((m.k == 3)) with hb_81 | hb_81
  · skip
    refine fw_cT rfl hb_81 ?_
    refine fw_rg rfl ?_
    refine fw_pu rfl ?_
    refine fw_st r16 rfl rfl ?_
    intro W82 s83 r84
    have b85 := below_chg b17 s83 (by omega) b17.size
    have r86 := r18.chg s83 (by omega)
    replace r84 : RowAt W82 q7 (Mq.row ({ m with top := { data := #[] } } : Mq) (.slice ac m.cs.length cc) (.slice aw m.ws.length cw) (.slice af m.fs.length cf)) := r84
    refine fw_pu rfl ?_
    refine fw_st r84 rfl rfl ?_
    intro W87 s88 r89
    have b90 := below_chg b85 s88 (by omega) b85.size
    have r91 := r86.chg s88 (by omega)
    replace r89 : RowAt W87 q7 (Mq.row ({ m with q := 0, top := { data := #[] } } : Mq) (.slice ac m.cs.length cc) (.slice aw m.ws.length cw) (.slice af m.fs.length cf)) := r89
    refine fw_pu rfl ?_
    refine fw_st r89 rfl rfl ?_
    intro W92 s93 r94
    have b95 := below_chg b90 s93 (by omega) b90.size
    have r96 := r91.chg s93 (by omega)
    replace r94 : RowAt W92 q7 (Mq.row ({ m with q := 0, re := false, top := { data := #[] } } : Mq) (.slice ac m.cs.length cc) (.slice aw m.ws.length cw) (.slice af m.fs.length cf)) := r94
    refine fw_pu rfl ?_
    refine fw_st r94 rfl rfl ?_
    intro W97 s98 r99
    have b100 := below_chg b95 s98 (by omega) b95.size
    have r101 := r96.chg s98 (by omega)
    replace r99 : RowAt W97 q7 (Mq.row ({ m with q := 0, re := false, top := { data := #[] }, pay := { data := #[] } } : Mq) (.slice ac m.cs.length cc) (.slice aw m.ws.length cw) (.slice af m.fs.length cf)) := r99
    refine fw_pu rfl ?_
    refine fw_st r99 rfl rfl ?_
    intro W102 s103 r104
    have b105 := below_chg b100 s103 (by omega) b100.size
    have r106 := r101.chg s103 (by omega)
    replace r104 : RowAt W102 q7 (Mq.row ({ m with dup := false, q := 0, re := false, top := { data := #[] }, pay := { data := #[] } } : Mq) (.slice ac m.cs.length cc) (.slice aw m.ws.length cw) (.slice af m.fs.length cf)) := r104
    refine fw_pu rfl ?_
    refine fw_st r104 rfl rfl ?_
    intro W107 s108 r109
    have b110 := below_chg b105 s108 (by omega) b105.size
    have r111 := r106.chg s108 (by omega)
    replace r109 : RowAt W107 q7 (Mq.row ({ m with dup := false, q := 0, re := false, top := { data := #[] }, id := 0, pay := { data := #[] } } : Mq) (.slice ac m.cs.length cc) (.slice aw m.ws.length cw) (.slice af m.fs.length cf)) := r109
    refine fw_dn ?_
    refine fw_bn ?_
    refine fw_th ?_
    refine fw_sq ?_
    refine fw_rg rfl ?_
    refine fw_ld r109 rfl rfl ?_
    refine fw_ca Tryd.func86 rfl rfl rfl ((nothing_any ({ m with dup := false, q := 0, re := false, top := E0, id := 0, pay := E0 } : Mq) _ _ _ W107 ⟨(hL.c.below b110), (hL.w.below b110), (hL.f.below b110)⟩)) ?_
    rintro _ V113 ⟨rfl, hb112⟩
    refine ⟨(.bool (({ m with dup := false, q := 0, re := false, top := E0, id := 0, pay := E0 } : Mq)).noB), rfl, ?_⟩
    have b114 := b110.trans (hb112.mono b110.size)
    have r115 := r111.below hb112
    have r116 := r109.below hb112
    refine fw_pu rfl ?_
    refine fw_dt ?_
    refine fw_rt ?_
    refine ⟨fun a h => ?_⟩
    exact ow_ret1 rfl h.df (h.g 2 rfl) ⟨by unfold baG stG; first | (simp [hb_19, hb_65, hb_81]; done) | simp [E0, hb_19, hb_65, hb_81], b114⟩
  refine fw_cF rfl hb_81 ?_
  refine fw_sq ?_
  refine fw_sq ?_
  refine fw_rg rfl ?_
  iterate 2 refine fw_pu rfl ?_
  refine fw_dt ?_
  rcases Bool.eq_false_or_eq_true ((m.k == 4)) with hb_117 | hb_117
  · skip
    refine fw_cT rfl hb_117 ?_
    refine fw_sk ?_
    refine fw_th ?_
    refine fw_cT rfl hb_117 ?_
    refine fw_rg rfl ?_
    refine fw_pu rfl ?_
    refine fw_st r16 rfl rfl ?_
    intro W118 s119 r120
    have b121 := below_chg b17 s119 (by omega) b17.size
    have r122 := r18.chg s119 (by omega)
    replace r120 : RowAt W118 q7 (Mq.row ({ m with id := 0 } : Mq) (.slice ac m.cs.length cc) (.slice aw m.ws.length cw) (.slice af m.fs.length cf)) := r120
    refine fw_dn ?_
    refine fw_bn ?_
    refine fw_th ?_
    refine fw_sq ?_
    refine fw_rg rfl ?_
    refine fw_ld r120 rfl rfl ?_
    refine fw_ca Tryd.func86 rfl rfl rfl ((nothing_any ({ m with id := 0 } : Mq) _ _ _ W118 ⟨(hL.c.below b121), (hL.w.below b121), (hL.f.below b121)⟩)) ?_
    rintro _ V124 ⟨rfl, hb123⟩
    refine ⟨(.bool (({ m with id := 0 } : Mq)).noB), rfl, ?_⟩
    have b125 := b121.trans (hb123.mono b121.size)
    have r126 := r122.below hb123
    have r127 := r120.below hb123
    refine fw_pu rfl ?_
    refine fw_dt ?_
    refine fw_rt ?_
    refine ⟨fun a h => ?_⟩
    exact ow_ret1 rfl h.df (h.g 2 rfl) ⟨by unfold baG stG; first | (simp [hb_19, hb_65, hb_81, hb_117]; done) | simp [E0, hb_19, hb_65, hb_81, hb_117], b125⟩
  refine fw_cF rfl hb_117 ?_
  refine fw_sq ?_
  refine fw_rg rfl ?_
  iterate 2 refine fw_pu rfl ?_
  refine fw_dt ?_
  rcases Bool.eq_false_or_eq_true ((m.k == 5)) with hb_128 | hb_128
  · skip
    refine fw_cT rfl hb_128 ?_
    refine fw_sk ?_
    refine fw_th ?_
    refine fw_cT rfl hb_128 ?_
    refine fw_rg rfl ?_
    refine fw_pu rfl ?_
    refine fw_st r16 rfl rfl ?_
    intro W129 s130 r131
    have b132 := below_chg b17 s130 (by omega) b17.size
    have r133 := r18.chg s130 (by omega)
    replace r131 : RowAt W129 q7 (Mq.row ({ m with id := 0 } : Mq) (.slice ac m.cs.length cc) (.slice aw m.ws.length cw) (.slice af m.fs.length cf)) := r131
    refine fw_dn ?_
    refine fw_bn ?_
    refine fw_th ?_
    refine fw_sq ?_
    refine fw_rg rfl ?_
    refine fw_ld r131 rfl rfl ?_
    refine fw_ca Tryd.func86 rfl rfl rfl ((nothing_any ({ m with id := 0 } : Mq) _ _ _ W129 ⟨(hL.c.below b132), (hL.w.below b132), (hL.f.below b132)⟩)) ?_
    rintro _ V135 ⟨rfl, hb134⟩
    refine ⟨(.bool (({ m with id := 0 } : Mq)).noB), rfl, ?_⟩
    have b136 := b132.trans (hb134.mono b132.size)
    have r137 := r133.below hb134
    have r138 := r131.below hb134
    refine fw_pu rfl ?_
    refine fw_dt ?_
    refine fw_rt ?_
    refine ⟨fun a h => ?_⟩
    exact ow_ret1 rfl h.df (h.g 2 rfl) ⟨by unfold baG stG; first | (simp [hb_19, hb_65, hb_81, hb_117, hb_128]; done) | simp [E0, hb_19, hb_65, hb_81, hb_117, hb_128], b136⟩
  refine fw_cF rfl hb_128 ?_
  refine fw_sq ?_
  refine fw_rg rfl ?_
  iterate 2 refine fw_pu rfl ?_
  refine fw_dt ?_
  rcases Bool.eq_false_or_eq_true ((m.k == 6)) with hb_139 | hb_139
  · skip
    refine fw_cT rfl hb_139 ?_
    refine fw_sk ?_
    refine fw_th ?_
    refine fw_cT rfl hb_139 ?_
    refine fw_rg rfl ?_
    refine fw_pu rfl ?_
    refine fw_st r16 rfl rfl ?_
    intro W140 s141 r142
    have b143 := below_chg b17 s141 (by omega) b17.size
    have r144 := r18.chg s141 (by omega)
    replace r142 : RowAt W140 q7 (Mq.row ({ m with id := 0 } : Mq) (.slice ac m.cs.length cc) (.slice aw m.ws.length cw) (.slice af m.fs.length cf)) := r142
    refine fw_dn ?_
    refine fw_bn ?_
    refine fw_th ?_
    refine fw_sq ?_
    refine fw_rg rfl ?_
    refine fw_ld r142 rfl rfl ?_
    refine fw_ca Tryd.func86 rfl rfl rfl ((nothing_any ({ m with id := 0 } : Mq) _ _ _ W140 ⟨(hL.c.below b143), (hL.w.below b143), (hL.f.below b143)⟩)) ?_
    rintro _ V146 ⟨rfl, hb145⟩
    refine ⟨(.bool (({ m with id := 0 } : Mq)).noB), rfl, ?_⟩
    have b147 := b143.trans (hb145.mono b143.size)
    have r148 := r144.below hb145
    have r149 := r142.below hb145
    refine fw_pu rfl ?_
    refine fw_dt ?_
    refine fw_rt ?_
    refine ⟨fun a h => ?_⟩
    exact ow_ret1 rfl h.df (h.g 2 rfl) ⟨by unfold baG stG; first | (simp [hb_19, hb_65, hb_81, hb_117, hb_128, hb_139]; done) | simp [E0, hb_19, hb_65, hb_81, hb_117, hb_128, hb_139], b147⟩
  refine fw_cF rfl hb_139 ?_
  refine fw_sq ?_
  refine fw_rg rfl ?_
  iterate 2 refine fw_pu rfl ?_
  refine fw_dt ?_
  rcases Bool.eq_false_or_eq_true ((m.k == 7)) with hb_150 | hb_150
  · skip
    refine fw_cT rfl hb_150 ?_
    refine fw_sk ?_
    refine fw_th ?_
    refine fw_cT rfl hb_150 ?_
    refine fw_rg rfl ?_
    refine fw_pu rfl ?_
    refine fw_st r16 rfl rfl ?_
    intro W151 s152 r153
    have b154 := below_chg b17 s152 (by omega) b17.size
    have r155 := r18.chg s152 (by omega)
    replace r153 : RowAt W151 q7 (Mq.row ({ m with id := 0 } : Mq) (.slice ac m.cs.length cc) (.slice aw m.ws.length cw) (.slice af m.fs.length cf)) := r153
    refine fw_dn ?_
    refine fw_bn ?_
    refine fw_th ?_
    refine fw_sq ?_
    refine fw_rg rfl ?_
    refine fw_ld r153 rfl rfl ?_
    refine fw_ca Tryd.func86 rfl rfl rfl ((nothing_any ({ m with id := 0 } : Mq) _ _ _ W151 ⟨(hL.c.below b154), (hL.w.below b154), (hL.f.below b154)⟩)) ?_
    rintro _ V157 ⟨rfl, hb156⟩
    refine ⟨(.bool (({ m with id := 0 } : Mq)).noB), rfl, ?_⟩
    have b158 := b154.trans (hb156.mono b154.size)
    have r159 := r155.below hb156
    have r160 := r153.below hb156
    refine fw_pu rfl ?_
    refine fw_dt ?_
    refine fw_rt ?_
    refine ⟨fun a h => ?_⟩
    exact ow_ret1 rfl h.df (h.g 2 rfl) ⟨by unfold baG stG; first | (simp [hb_19, hb_65, hb_81, hb_117, hb_128, hb_139, hb_150]; done) | simp [E0, hb_19, hb_65, hb_81, hb_117, hb_128, hb_139, hb_150], b158⟩
  refine fw_cF rfl hb_150 ?_
  refine fw_rg rfl ?_
  iterate 2 refine fw_pu rfl ?_
  refine fw_dt ?_
  rcases Bool.eq_false_or_eq_true ((m.k == 11)) with hb_161 | hb_161
  · skip
    refine fw_cT rfl hb_161 ?_
    refine fw_rg rfl ?_
    refine fw_pu rfl ?_
    refine fw_st r16 rfl rfl ?_
    intro W162 s163 r164
    have b165 := below_chg b17 s163 (by omega) b17.size
    have r166 := r18.chg s163 (by omega)
    replace r164 : RowAt W162 q7 (Mq.row ({ m with id := 0 } : Mq) (.slice ac m.cs.length cc) (.slice aw m.ws.length cw) (.slice af m.fs.length cf)) := r164
    refine fw_dn ?_
    refine fw_bn ?_
    refine fw_th ?_
    refine fw_sq ?_
    refine fw_rg rfl ?_
    refine fw_ld r164 rfl rfl ?_
    refine fw_ca Tryd.func86 rfl rfl rfl ((nothing_any ({ m with id := 0 } : Mq) _ _ _ W162 ⟨(hL.c.below b165), (hL.w.below b165), (hL.f.below b165)⟩)) ?_
    rintro _ V168 ⟨rfl, hb167⟩
    refine ⟨(.bool (({ m with id := 0 } : Mq)).noB), rfl, ?_⟩
    have b169 := b165.trans (hb167.mono b165.size)
    have r170 := r166.below hb167
    have r171 := r164.below hb167
    refine fw_pu rfl ?_
    refine fw_dt ?_
    refine fw_rt ?_
    refine ⟨fun a h => ?_⟩
    exact ow_ret1 rfl h.df (h.g 2 rfl) ⟨by unfold baG stG; first | (simp [hb_19, hb_65, hb_81, hb_117, hb_128, hb_139, hb_150, hb_161]; done) | simp [E0, hb_19, hb_65, hb_81, hb_117, hb_128, hb_139, hb_150, hb_161], b169⟩
  refine fw_cF rfl hb_161 ?_
  refine fw_sq ?_
  refine fw_rg rfl ?_
  iterate 2 refine fw_pu rfl ?_
  refine fw_dt ?_
  rcases Bool.eq_false_or_eq_true ((m.k == 8)) with hb_172 | hb_172
  · skip
    refine fw_cT rfl hb_172 ?_
    refine fw_rg rfl ?_
    refine fw_pu rfl ?_
    refine fw_st r16 rfl rfl ?_
    intro W173 s174 r175
    have b176 := below_chg b17 s174 (by omega) b17.size
    have r177 := r18.chg s174 (by omega)
    replace r175 : RowAt W173 q7 (Mq.row ({ m with id := 0 } : Mq) (.slice ac m.cs.length cc) (.slice aw m.ws.length cw) (.slice af m.fs.length cf)) := r175
    refine fw_pu rfl ?_
    refine fw_st r175 rfl rfl ?_
    intro W178 s179 r180
    have b181 := below_chg b176 s179 (by omega) b176.size
    have r182 := r177.chg s179 (by omega)
    replace r180 : RowAt W178 q7 (Mq.row ({ m with id := 0 } : Mq) (.slice ac m.cs.length cc) (.slice none 0 0) (.slice af m.fs.length cf)) := r180
    refine fw_dn ?_
    refine fw_bn ?_
    refine fw_th ?_
    refine fw_sq ?_
    refine fw_rg rfl ?_
    refine fw_ld r180 rfl rfl ?_
    refine fw_ca Tryd.func86 rfl rfl rfl ((nothing_any ({ m with id := 0, ws := [] } : Mq) _ _ _ W178 ⟨(hL.c.below b181), nilL _ _, (hL.f.below b181)⟩)) ?_
    rintro _ V184 ⟨rfl, hb183⟩
    refine ⟨(.bool (({ m with id := 0, ws := [] } : Mq)).noB), rfl, ?_⟩
    have b185 := b181.trans (hb183.mono b181.size)
    have r186 := r182.below hb183
    have r187 := r180.below hb183
    refine fw_pu rfl ?_
    refine fw_dt ?_
    refine fw_rt ?_
    refine ⟨fun a h => ?_⟩
    exact ow_ret1 rfl h.df (h.g 2 rfl) ⟨by unfold baG stG; first | (simp [hb_19, hb_65, hb_81, hb_117, hb_128, hb_139, hb_150, hb_161, hb_172]; done) | simp [E0, hb_19, hb_65, hb_81, hb_117, hb_128, hb_139, hb_150, hb_161, hb_172], b185⟩
  refine fw_cF rfl hb_172 ?_
  refine fw_sq ?_
  refine fw_rg rfl ?_
  iterate 2 refine fw_pu rfl ?_
  refine fw_dt ?_
  rcases Bool.eq_false_or_eq_true ((m.k == 9)) with hb_188 | hb_188
  · skip
    refine fw_cT rfl hb_188 ?_
    refine fw_rg rfl ?_
    refine fw_pu rfl ?_
    refine fw_st r16 rfl rfl ?_
    intro W189 s190 r191
    have b192 := below_chg b17 s190 (by omega) b17.size
    have r193 := r18.chg s190 (by omega)
    replace r191 : RowAt W189 q7 (Mq.row ({ m with id := 0 } : Mq) (.slice ac m.cs.length cc) (.slice aw m.ws.length cw) (.slice af m.fs.length cf)) := r191
    refine fw_pu rfl ?_
    refine fw_st r191 rfl rfl ?_
    intro W194 s195 r196
    have b197 := below_chg b192 s195 (by omega) b192.size
    have r198 := r193.chg s195 (by omega)
    replace r196 : RowAt W194 q7 (Mq.row ({ m with id := 0 } : Mq) (.slice none 0 0) (.slice aw m.ws.length cw) (.slice af m.fs.length cf)) := r196
    refine fw_dn ?_
    refine fw_bn ?_
    refine fw_th ?_
    refine fw_sq ?_
    refine fw_rg rfl ?_
    refine fw_ld r196 rfl rfl ?_
    refine fw_ca Tryd.func86 rfl rfl rfl ((nothing_any ({ m with id := 0, cs := [] } : Mq) _ _ _ W194 ⟨nilL _ _, (hL.w.below b197), (hL.f.below b197)⟩)) ?_
    rintro _ V200 ⟨rfl, hb199⟩
    refine ⟨(.bool (({ m with id := 0, cs := [] } : Mq)).noB), rfl, ?_⟩
    have b201 := b197.trans (hb199.mono b197.size)
    have r202 := r198.below hb199
    have r203 := r196.below hb199
    refine fw_pu rfl ?_
    refine fw_dt ?_
    refine fw_rt ?_
    refine ⟨fun a h => ?_⟩
    exact ow_ret1 rfl h.df (h.g 2 rfl) ⟨by unfold baG stG; first | (simp [hb_19, hb_65, hb_81, hb_117, hb_128, hb_139, hb_150, hb_161, hb_172, hb_188]; done) | simp [E0, hb_19, hb_65, hb_81, hb_117, hb_128, hb_139, hb_150, hb_161, hb_172, hb_188], b201⟩
  refine fw_cF rfl hb_188 ?_
  refine fw_sq ?_
  refine fw_rg rfl ?_
  iterate 2 refine fw_pu rfl ?_
  refine fw_dt ?_
  rcases Bool.eq_false_or_eq_true ((m.k == 10)) with hb_204 | hb_204
  · skip
    refine fw_cT rfl hb_204 ?_
    refine fw_rg rfl ?_
    refine fw_pu rfl ?_
    refine fw_st r16 rfl rfl ?_
    intro W205 s206 r207
    have b208 := below_chg b17 s206 (by omega) b17.size
    have r209 := r18.chg s206 (by omega)
    replace r207 : RowAt W205 q7 (Mq.row ({ m with id := 0 } : Mq) (.slice ac m.cs.length cc) (.slice aw m.ws.length cw) (.slice af m.fs.length cf)) := r207
    refine fw_pu rfl ?_
    refine fw_st r207 rfl rfl ?_
    intro W210 s211 r212
    have b213 := below_chg b208 s211 (by omega) b208.size
    have r214 := r209.chg s211 (by omega)
    replace r212 : RowAt W210 q7 (Mq.row ({ m with id := 0 } : Mq) (.slice ac m.cs.length cc) (.slice aw m.ws.length cw) (.slice none 0 0)) := r212
    refine fw_dn ?_
    refine fw_bn ?_
    refine fw_th ?_
    refine fw_sq ?_
    refine fw_rg rfl ?_
    refine fw_ld r212 rfl rfl ?_
    refine fw_ca Tryd.func86 rfl rfl rfl ((nothing_any ({ m with id := 0, fs := [] } : Mq) _ _ _ W210 ⟨(hL.c.below b213), (hL.w.below b213), nilL _ _⟩)) ?_
    rintro _ V216 ⟨rfl, hb215⟩
    refine ⟨(.bool (({ m with id := 0, fs := [] } : Mq)).noB), rfl, ?_⟩
    have b217 := b213.trans (hb215.mono b213.size)
    have r218 := r214.below hb215
    have r219 := r212.below hb215
    refine fw_pu rfl ?_
    refine fw_dt ?_
    refine fw_rt ?_
    refine ⟨fun a h => ?_⟩
    exact ow_ret1 rfl h.df (h.g 2 rfl) ⟨by unfold baG stG; first | (simp [hb_19, hb_65, hb_81, hb_117, hb_128, hb_139, hb_150, hb_161, hb_172, hb_188, hb_204]; done) | simp [E0, hb_19, hb_65, hb_81, hb_117, hb_128, hb_139, hb_150, hb_161, hb_172, hb_188, hb_204], b217⟩
  refine fw_cF rfl hb_204 ?_
  refine fw_sk ?_
  refine fw_bn ?_
  refine fw_th ?_
  refine fw_sq ?_
  refine fw_rg rfl ?_
  refine fw_ld r16 rfl rfl ?_
  refine fw_ca Tryd.func86 rfl rfl rfl ((nothing_any m _ _ _ W14 ⟨(hL.c.below b17), (hL.w.below b17), (hL.f.below b17)⟩)) ?_
  rintro _ V221 ⟨rfl, hb220⟩
  refine ⟨(.bool (m).noB), rfl, ?_⟩
  have b222 := b17.trans (hb220.mono b17.size)
  have r223 := r18.below hb220
  have r224 := r16.below hb220
  refine fw_pu rfl ?_
  refine fw_dt ?_
  refine fw_rt ?_
  refine ⟨fun a h => ?_⟩
  exact ow_ret1 rfl h.df (h.g 2 rfl) ⟨by unfold baG stG; first | (simp [hb_19, hb_65, hb_81, hb_117, hb_128, hb_139, hb_150, hb_161, hb_172, hb_188, hb_204]; done) | simp [E0, hb_19, hb_65, hb_81, hb_117, hb_128, hb_139, hb_150, hb_161, hb_172, hb_188, hb_204], b222⟩
set_option maxRecDepth 100000 in
set_option maxHeartbeats 4000000 in
theorem checkG (m : Mq) (ac aw af : Option Addr) (nc nw nf cc cw cf : Nat) (w : World) (hL : m.Lists w (.slice ac nc cc) (.slice aw nw cw) (.slice af nf cf)) (hF : m.Far) (hT : Tabs w) :
    Calls Tryd.prog 26 #[.agg (Mq.row m (.slice ac nc cc) (.slice aw nw cw) (.slice af nf cf)).toArray] w fun e w' => e = .returned (.int .i64 (if mayG m then 0 else 1)) ∧ Below w.heap.size w w' := by
  obtain rfl : nc = m.cs.length := by have := slR_len hL.c; simpa using this
  obtain rfl : nw = m.ws.length := by have := slR_len hL.w; simpa using this
  obtain rfl : nf = m.fs.length := by have := slR_len hL.f; simpa using this
  have hb0 := Below.refl w.heap.size w
  have hF0 : m.cl.size ≤ 140737488351232 := hF.cl
  have hF1 : m.wT.size ≤ 140737488351232 := hF.wT
  have hF2 : m.wP.size ≤ 140737488351232 := hF.wP
  have hF3 : m.us.size ≤ 140737488351232 := hF.us
  have hF4 : m.pa.size ≤ 140737488351232 := hF.pa
  have hF5 : m.top.size ≤ 140737488351232 := hF.top
  have hF6 : m.pay.size ≤ 140737488351232 := hF.pay
  refine fw_en 11 [(0, .agg (Mq.row m (.slice ac m.cs.length cc) (.slice aw m.ws.length cw) (.slice af m.fs.length cf)).toArray)] Tryd.func26 rfl Tryd.ntmps26 rfl ⟨rfl, trivial⟩ ?_
  refine fw_sq ?_
  refine fw_rg rfl ?_
  refine fw_bx rfl (cs := [.int .i64 m.k, .string m.cl, .bool m.clean, .int .i64 m.keep, .bool m.wI, .string m.wT, .string m.wP, .int .i64 m.wQ, .bool m.wR, .string m.us, .bool m.hu, .string m.pa, .bool m.hp, .bool m.pres, .int .i64 m.code, .slice ac m.cs.length cc, .bool m.dup, .int .i64 m.q, .bool m.re, .string m.top, .int .i64 m.id, .string m.pay, .slice aw m.ws.length cw, .slice af m.fs.length cf]) rfl ?_
  intro q1 W2 g5 s3 r4
  have := Nat.le_trans hb0.size g5
  have b6 := hb0.trans (s3.mono hb0.size)
  refine fw_pu rfl ?_
  refine fw_dt ?_
  refine fw_sq ?_
  refine fw_sq ?_
  refine fw_rg rfl ?_
  refine fw_ld r4 rfl rfl ?_
  refine fw_ca Tryd.func59 rfl rfl rfl ((validG m ac aw af _ _ _ cc cw cf W2 (hL.below b6) hF (hT.below b6))) ?_
  rintro _ V8 ⟨rfl, hb7⟩
  refine ⟨(.bool (vaG m)), rfl, ?_⟩
  have b9 := b6.trans (hb7.mono b6.size)
  have r10 := r4.below hb7
  iterate 2 refine fw_pu rfl ?_
  rcases Bool.eq_false_or_eq_true ((vaG m)) with hb_11 | hb_11
  · skip
    refine fw_kn 6 rfl (not_of hb_11) ?_
    refine fw_ld r10 rfl rfl ?_
    refine fw_ca Tryd.func60 rfl rfl rfl ((bareG m ac aw af _ _ _ cc cw cf V8 (hL.below b9))) ?_
    rintro _ V13 ⟨rfl, hb12⟩
    refine ⟨(.bool (baG m)), rfl, ?_⟩
    have b14 := b9.trans (hb12.mono b9.size)
    have r15 := r10.below hb12
    iterate 2 refine fw_pu rfl ?_
    refine fw_dt ?_
    rcases Bool.eq_false_or_eq_true ((baG m)) with hb_16 | hb_16
    · skip
      refine fw_cF rfl (not_of hb_16) ?_
      refine fw_sk ?_
      refine fw_th ?_
      refine fw_sq ?_
      refine fw_rg rfl ?_
      refine fw_pu rfl ?_
      refine fw_dt ?_
      refine fw_rt ?_
      refine ⟨fun a h => ?_⟩
      exact ow_ret1 rfl h.df (h.g 2 rfl) ⟨by (try unfold mayG); simp [hb_11, hb_16], b14⟩
    refine fw_cT rfl (not_of hb_16) ?_
    refine fw_sq ?_
    refine fw_rg rfl ?_
    refine fw_pu rfl ?_
    refine fw_dt ?_
    refine fw_rt ?_
    refine fw_tr ?_
    refine ⟨fun a h => ?_⟩
    exact ow_ret1 rfl h.df (h.g 2 rfl) ⟨by (try unfold mayG); simp [hb_11, hb_16], b14⟩
  refine fw_kn 6 rfl (not_of hb_11) ?_
  iterate 4 refine fw_pu rfl ?_
  refine fw_dt ?_
  refine fw_cT rfl rfl ?_
  refine fw_sq ?_
  refine fw_rg rfl ?_
  refine fw_pu rfl ?_
  refine fw_dt ?_
  refine fw_rt ?_
  refine fw_tr ?_
  refine ⟨fun a h => ?_⟩
  exact ow_ret1 rfl h.df (h.g 2 rfl) ⟨by (try unfold mayG); simp [hb_11], b9⟩
end Go.Proofs.YtpgnlhfokffioaaDoor
