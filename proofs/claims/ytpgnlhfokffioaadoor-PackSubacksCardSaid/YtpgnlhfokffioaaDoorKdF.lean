/-
  Packets: what the laws lean on.
-/
import Derived.Test.YtpgnlhfokffioaaDoorKdE
namespace Go.Proofs.YtpgnlhfokffioaaDoor
section
open Go.RowKit Go.Lib
theorem own_rowD {W : World} {B t sz g n cap : Nat} {xs : List Value} (h : W.ownsRow B t sz (.slice (some ⟨g, 0, none⟩) n cap) n xs) : RowAt W g xs := by
  rcases h.2 with ⟨h1, -⟩ | ⟨g', cap', cur, e, -, hh, h1, h2, h3, h4⟩
  · cases h1
  · injection e with e; injection e with e; injection e with e e2
    subst e
    refine ⟨fun j v hj => ?_, fun j => ?_, ?_⟩
    · rw [← h4, List.getElem?_take] at hj
      split at hj
      · simp [World.cell?, hh]
        simpa using hj
      · cases hj
    · simp [World.frozen?, hh]
    · rcases Nat.lt_or_ge g W.heap.size with h | h
      · exact h
      · rw [Array.getElem?_eq_none h] at hh; simp at hh
theorem own_caps {W : World} {B t sz g n cap : Nat} {xs : List Value} (h : W.ownsRow B t sz (.slice (some ⟨g, 0, none⟩) n cap) n xs) : n ≤ cap ∧ cap ≤ maxLen ∧ B ≤ g := by
  rcases h.2 with ⟨h1, -⟩ | ⟨g', cap', cur, e, hb, hh, h1, h2, h3, h4⟩
  · cases h1
  · injection e with e _ e3; injection e with e; injection e with e e2
    subst e e3; exact ⟨h1, h2, hb⟩
theorem own_ptr {W : World} {B t sz n cap : Nat} {a : Option Addr} {xs : List Value} (h : W.ownsRow B t sz (.slice a n cap) n xs) (hn : 0 < n) : ∃ g, a = some ⟨g, 0, none⟩ := by
  rcases h.2 with ⟨-, h2⟩ | ⟨g, cap', cur, e, -⟩
  · omega
  · injection e with e; exact ⟨g, e⟩
section
variable {P : Program} {ops : Array Oper} {Q : Exit → Act → World → Prop} {n q j : Nat} {L : Kn} {o : Oper} {l : List Oper} {W : World}
theorem fw_so {T : List TE} [hTk : TOk P T] {B e m cap : Nat} {u : Value} {xs : List Value} (r : W.ownsRow B e 1 (.slice (some ⟨q, 0, none⟩) m cap) m xs) (hs : storeC T ops L o = some (q, j, [u])) (hj : j < xs.length) (h1 : u.oneCell' = true)
    (k : ∀ W', W.grownBy W' (some q) → W'.ownsRow B e 1 (.slice (some ⟨q, 0, none⟩) m cap) m (xs.set j u) → Fr n L (WL P ops Q l) W') : Fr n L (WL P ops Q (o :: l)) W :=
  ⟨fun a h => by
    obtain ⟨h4, h2, h3⟩ := storeC_run hTk.ok h hs (own_rowD r) (by unfold stB; rw [Bool.and_eq_true]; exact ⟨Nat.ble_eq_true_of_le (by simp only [List.length_cons, List.length_nil]; omega), by simp [h1]⟩)
    exact owl_skip (wantL_sound h h3) _ h2 h4 ((k _ (gr_sets q [u] j W) (r.stored j u).1).out _ h)⟩
end
theorem id_bd {m : Mq} (h : mayG m = true) : 0 ≤ m.id ∧ m.id < 65536 := by
  have z : ∀ {x : Mq}, m = x → x.id = 0 → 0 ≤ m.id ∧ m.id < 65536 := fun e h0 => by have := (congrArg Mq.id e).trans h0; omega
  rcases may_kind h with hk | hk | hk | hk | hk | hk | hk | hk | hk | hk | hk | hk | hk | hk
  · exact z (mf_1 h hk).2 rfl
  · exact z (mf_2 h hk).2 rfl
  · exact (pb_parts (mf_3 h hk).1).2.2.1
  · have := id_le (mf_4 h hk).1; omega
  · have := id_le (mf_5 h hk).1; omega
  · have := id_le (mf_6 h hk).1; omega
  · have := id_le (mf_7 h hk).1; omega
  · have h1 := (mf_8 h hk).1; simp only [Bool.and_eq_true] at h1; have := id_le h1.1; omega
  · have h1 := (mf_9 h hk).1; simp only [Bool.and_eq_true] at h1; have := id_le h1.1; omega
  · have h1 := (mf_10 h hk).1; simp only [Bool.and_eq_true] at h1; have := id_le h1.1; omega
  · have := id_le (mf_11 h hk).1; omega
  · exact z (mf_12 h hk).2 rfl
  · exact z (mf_13 h hk).2 rfl
  · exact z (mf_14 h hk).2 rfl
theorem hd_k {m : Mq} (h : mayG m = true) : (((hdG m).toNat / 16 : Nat) : Int) = m.k := by
  obtain ⟨o1, o2, o4, o5, o6, o7, o8, o9, o10, o11, o12, o13, o14⟩ := or0
  have z : ∀ {k x : Int}, m.k = k → ((hdG m).toNat : Int) = x → x / 16 = k → (((hdG m).toNat / 16 : Nat) : Int) = m.k := fun h1 h2 h3 => by omega
  rcases may_kind h with hk | hk | hk | hk | hk | hk | hk | hk | hk | hk | hk | hk | hk | hk
  · exact z hk (hd_of hk (fl_k hk rfl) o1 (by decide)) rfl
  · exact z hk (hd_of hk (fl_k hk rfl) o2 (by decide)) rfl
  · obtain ⟨x, g0, g1, g2, g3, g4, g5⟩ := fl_of m hk (pb_parts (mf_3 h hk).1).1
    have hx : ((hdG m).toNat : Int) = 48 + x := by unfold hdG; rw [hk, g0]; show ((b8I (bits .or .i64 48 x)).toNat : Int) = _; rw [g2, b8_lit _ (by omega)]
    exact z hk hx (by omega)
  · exact z hk (hd_of hk (fl_k hk rfl) o4 (by decide)) rfl
  · exact z hk (hd_of hk (fl_k hk rfl) o5 (by decide)) rfl
  · exact z hk (hd_of hk (fl_k hk rfl) o6 (by decide)) rfl
  · exact z hk (hd_of hk (fl_k hk rfl) o7 (by decide)) rfl
  · exact z hk (hd_of hk (fl_k hk rfl) o8 (by decide)) rfl
  · exact z hk (hd_of hk (fl_k hk rfl) o9 (by decide)) rfl
  · exact z hk (hd_of hk (fl_k hk rfl) o10 (by decide)) rfl
  · exact z hk (hd_of hk (fl_k hk rfl) o11 (by decide)) rfl
  · exact z hk (hd_of hk (fl_k hk rfl) o12 (by decide)) rfl
  · exact z hk (hd_of hk (fl_k hk rfl) o13 (by decide)) rfl
  · exact z hk (hd_of hk (fl_k hk rfl) o14 (by decide)) rfl
theorem en_two (m : Mq) : 2 ≤ (enG m).length := by
  rw [en_eq, List.length_cons, List.length_append]
  have : 1 ≤ (lenG (bdG m).length).length := by
    unfold lenG lenB; split <;> simp
  omega
theorem pa_en0 {m : Mq} (h : mayG m = true) : paG (enG m) = (m, (enG m).length, 0) := by
  have := pa_en h []; rwa [List.append_nil] at this
def Fits (m : Mq) : Prop := m.Far ∧ m.cs.length ≤ 1000000 ∧ m.ws.length ≤ 1000000 ∧ m.fs.length ≤ 1000000
section
variable {m : Mq} (h : Small m)
include h
theorem fits : Fits m := by
  have hf : 1000 ≤ far := by decide
  exact ⟨⟨Nat.le_trans h.cl hf, Nat.le_trans h.wT hf, Nat.le_trans h.wP hf, Nat.le_trans h.us hf, Nat.le_trans h.pa hf, Nat.le_trans h.cs (by decide), Nat.le_trans h.top hf, Nat.le_trans h.pay hf, Nat.le_trans h.ws (by decide), Nat.le_trans h.fs (by decide), fun x hx => Nat.le_trans (h.wsf x hx) hf, fun x hx => Nat.le_trans (h.fsf x hx) hf⟩, Nat.le_trans h.cs (by decide), Nat.le_trans h.ws (by decide), Nat.le_trans h.fs (by decide)⟩
theorem fits_id (x : Int) : Fits { m with id := x } := by have z := fits h; exact ⟨⟨z.1.cl, z.1.wT, z.1.wP, z.1.us, z.1.pa, z.1.cs, z.1.top, z.1.pay, z.1.ws, z.1.fs, z.1.wsf, z.1.fsf⟩, z.2⟩
theorem fits_wQ (x : Int) : Fits { m with wQ := x } := by have z := fits h; exact ⟨⟨z.1.cl, z.1.wT, z.1.wP, z.1.us, z.1.pa, z.1.cs, z.1.top, z.1.pay, z.1.ws, z.1.fs, z.1.wsf, z.1.fsf⟩, z.2⟩
theorem fits_pres (x : Bool) : Fits { m with pres := x } := by have z := fits h; exact ⟨⟨z.1.cl, z.1.wT, z.1.wP, z.1.us, z.1.pa, z.1.cs, z.1.top, z.1.pay, z.1.ws, z.1.fs, z.1.wsf, z.1.fsf⟩, z.2⟩
theorem fits_top : Fits { m with top := m.top ++ { data := #[35] } } := by
  have z := fits h; have h1 := h.top
  exact ⟨⟨z.1.cl, z.1.wT, z.1.wP, z.1.us, z.1.pa, z.1.cs, by show (m.top ++ _).size ≤ _; rw [ByteArray.size_append]; exact Nat.le_trans (Nat.add_le_add_right h1 _) (by decide), z.1.pay, z.1.ws, z.1.fs, z.1.wsf, z.1.fsf⟩, z.2⟩
theorem fits_pa : Fits { m with pa := m.pa ++ { data := #[120] } } := by
  have z := fits h; have h1 := h.pa
  exact ⟨⟨z.1.cl, z.1.wT, z.1.wP, z.1.us, by show (m.pa ++ _).size ≤ _; rw [ByteArray.size_append]; exact Nat.le_trans (Nat.add_le_add_right h1 _) (by decide), z.1.cs, z.1.top, z.1.pay, z.1.ws, z.1.fs, z.1.wsf, z.1.fsf⟩, z.2⟩
theorem fits_cs {l : List Int} {x : Int} (e : l = m.cs ++ [x]) : Fits { m with cs := l } := by
  have z := fits h; have h1 := h.cs
  have h2 : l.length ≤ 9 := by rw [e, List.length_append]; exact Nat.add_le_add_right h1 1
  exact ⟨⟨z.1.cl, z.1.wT, z.1.wP, z.1.us, z.1.pa, Nat.le_trans h2 (by decide), z.1.top, z.1.pay, z.1.ws, z.1.fs, z.1.wsf, z.1.fsf⟩, Nat.le_trans h2 (by decide), z.2.2⟩
theorem fits_ws {l : List EWish} {x : EWish} (hx : x.f.size ≤ far) (e : l = m.ws ++ [x]) : Fits { m with ws := l } := by
  have z := fits h; have h1 := h.ws
  have h2 : l.length ≤ 9 := by rw [e, List.length_append]; exact Nat.add_le_add_right h1 1
  exact ⟨⟨z.1.cl, z.1.wT, z.1.wP, z.1.us, z.1.pa, z.1.cs, z.1.top, z.1.pay, Nat.le_trans h2 (by decide), z.1.fs, by rw [e]; exact fun y hy => (List.mem_append.1 hy).elim (z.1.wsf y) (fun hy => by rw [List.mem_singleton.1 hy]; exact hx), z.1.fsf⟩, z.2.1, Nat.le_trans h2 (by decide), z.2.2.2⟩
theorem fits_fs {l : List ByteArray} {x : ByteArray} (hx : x.size ≤ far) (e : l = m.fs ++ [x]) : Fits { m with fs := l } := by
  have z := fits h; have h1 := h.fs
  have h2 : l.length ≤ 9 := by rw [e, List.length_append]; exact Nat.add_le_add_right h1 1
  exact ⟨⟨z.1.cl, z.1.wT, z.1.wP, z.1.us, z.1.pa, z.1.cs, z.1.top, z.1.pay, z.1.ws, Nat.le_trans h2 (by decide), z.1.wsf, by rw [e]; exact fun y hy => (List.mem_append.1 hy).elim (z.1.fsf y) (fun hy => by rw [List.mem_singleton.1 hy]; exact hx)⟩, z.2.1, z.2.2.1, Nat.le_trans h2 (by decide)⟩
end
def flipG (m : Mq) (y : UInt8) : List UInt8 := y :: (lenG (bdG m).length ++ bdG m)
theorem flip_len (m : Mq) (y : UInt8) : (enG m).length = (flipG m y).length := rfl
theorem flip_ob {W : World} {B g c : Nat} {m : Mq} {y : UInt8} (h : W.ownsRow B 5 1 (.slice (some ⟨g, 0, none⟩) (enG m).length c) (enG m).length (((enG m).map B8).set 0 (B8 y))) : OB W B (some ⟨g, 0, none⟩) c (flipG m y) := h
theorem ol_new {W : World} {B t sz n q : Nat} {v : Value} {xs : List Value} (h : W.ownsRow B t sz v n xs) (hq : W.heap.size ≤ q) : ∀ k, v.ownBlock = some k → k ≠ q := fun k hk e => by have := (blk_lt h hk).2; omega
theorem strAdd (s t : ByteArray) (w : World) (h : s.size + t.size ≤ 9223372036854775807) : (binOp .add 9 (.string s) (.string t)).run Tryd.prog w = .ok (.string (s ++ t)) w := by simp [go_sem, h]
theorem u8shr4 (x : UInt8) (w : World) : (binOp .shr 5 (B8 x) (.int .u64 4)).run Tryd.prog w = .ok (.int .u8 ((x.toNat / 16 : Nat) : Int)) w := by
  simp [go_sem]
theorem cv8I (n : Nat) (h : n < 256) (w : World) : (convert 5 3 (.int .u8 (n : Int))).run Tryd.prog w = .ok (.int .i64 (n : Int)) w := by
  have := wrap_i64 (n : Int) (by omega) (by omega)
  simp [go_sem]
  exact this
theorem u8xor (x y : UInt8) (w : World) : (binOp .xor 5 (B8 x) (B8 y)).run Tryd.prog w = .ok (B8 (x ^^^ y)) w := by
  have h : ∀ x y : UInt8, bits .xor .u8 (x.toNat : Int) (y.toNat : Int) = ((x ^^^ y).toNat : Int) := by
    intro x y
    have h1 : (BitVec.ofInt 8 (x.toNat : Int)).toNat = x.toNat := by rw [BitVec.toNat_ofInt]; have := x.toNat_lt; omega
    have h2 : (BitVec.ofInt 8 (y.toNat : Int)).toNat = y.toNat := by rw [BitVec.toNat_ofInt]; have := y.toNat_lt; omega
    show IntKind.wrap .u8 (((BitVec.ofInt 8 (x.toNat : Int) ^^^ BitVec.ofInt 8 (y.toNat : Int)).toNat : Nat) : Int) = _
    rw [BitVec.toNat_xor, h1, h2, UInt8.toNat_xor, IntKind.wrap_u8]
    have h3 := (x ^^^ y).toNat_lt
    rw [UInt8.toNat_xor] at h3
    omega
  simp [go_sem, h]
set_option maxRecDepth 100000 in
set_option maxHeartbeats 4000000 in
theorem kind_any (kk : Int) (aS : Option Addr) (nS cS : Nat) (L : List (Mq × List UInt8)) (w : World) (hS : SlOf w 25 Ask18.At (.slice aS nS cS) L) (hLl : L.length ≤ far) (hT : Tabs w) :
    Calls Tryd.prog 28 #[.slice aS nS cS, .int .i64 kk] w fun e w' => e = .returned (.bool true) ∧ Below w.heap.size w w' := by
  have hLl0 : L.length ≤ 140737488351232 := hLl
  obtain rfl : nS = L.length := ask_len hS
  have hb0 := Below.refl w.heap.size w
  refine fw_en 202 [(0, .slice aS L.length cS), (1, .int .i64 kk)] Tryd.func28 rfl Tryd.ntmps28 rfl ⟨rfl, rfl, trivial⟩ ?_
  refine fw_sq (fw_rg rfl (fw_pu rfl (fw_dt (fw_sq (fw_sq (fw_rg rfl (fw_pu rfl (fw_dt (fw_bk ?_)))))))))
  refine fw_lp (fun N K W => ∃ (i : Nat), N = L.length - i ∧ i ≤ L.length ∧ K = [(0, .slice aS L.length cS), (1, .int .i64 kk), (5, .int .i64 ((i : Nat) : Int))] ∧ Below w.heap.size w W) _ _ ⟨0, rfl, Nat.zero_le _, rfl, hb0⟩ ⟨rfl, rfl, (by first | rfl | (simp only [Look, cond, Nat.beq]; first | rfl | (congr 2; first | rfl | omega | (push_cast; omega)) | (simp; try omega))), trivial⟩ ?_
  rintro N _ W1 ⟨i, rfl, hil, rfl, bW1⟩
  intro K3 hK3
  refine fw_sq (fw_sq (fw_rg rfl ?_))
  iterate 5 refine fw_pu rfl ?_
  rcases Bool.eq_false_or_eq_true ((decide (((i : Nat) : Int) < ((L.length : Nat) : Int)))) with hb_4 | hb_4
  · skip
    refine fw_kn 27 rfl hb_4 ?_
    iterate 3 refine fw_pu rfl ?_
    refine fw_dt ?_
    rcases Bool.eq_false_or_eq_true ((decide (((i : Nat) : Int) < 10))) with hb_5 | hb_5
    · skip
      refine fw_cT rfl hb_5 (fw_sk (fw_th (fw_sq (fw_bk (fw_sq ?_)))))
      have hiL : i < L.length := by have h := of_decide_eq_true hb_4; omega
      obtain ⟨⟨m, xs⟩, hmx⟩ : ∃ p, L[i]? = some p := ⟨_, List.getElem?_eq_getElem hiL⟩
      obtain ⟨bP, oP, haP, hbP, hAt⟩ := ask_at hS hmx
      obtain ⟨vc, vw, vf, vx, hcP, hL, hX, hF, hxf⟩ := hAt
      dsimp only at hcP hL hX hF hxf
      obtain ⟨ac, nc, cc, aw, nw, cw, af, nf, cf, rfl, rfl, rfl⟩ := lists_open hL
      obtain ⟨ax, nx, cx, rfl⟩ : ∃ ax nx cx, vx = .slice ax nx cx := by obtain ⟨p, q, e, -⟩ := hX; exact ⟨_, _, _, e⟩
      have hcx := sl_cap hX
      obtain rfl : nc = m.cs.length := by have := slR_len hL.c; simpa using this
      obtain rfl : nw = m.ws.length := by have := slR_len hL.w; simpa using this
      obtain rfl : nf = m.fs.length := by have := slR_len hL.f; simpa using this
      obtain rfl : nx = xs.length := hcx.1
      refine fw_rg rfl ?_
      iterate 2 refine fw_pu rfl ?_
      refine fw_ex 35 (.pointer (some ⟨bP, (oP + i * 25), none⟩)) rfl rfl rfl (fun a h => (run_indexOp (h.ev rfl) (h.ev rfl) (by rw [haP]; exact idxAsk _ _ _ _ _ (by have := ask_len hS; omega) _))) ?_
      refine fw_ex 36 (.agg (Mq.row m (.slice ac m.cs.length cc) (.slice aw m.ws.length cw) (.slice af m.fs.length cf) ++ [(.slice ax xs.length cx : Value)]).toArray) rfl rfl rfl (fun a h => (run_loadOp (h.ev rfl) (run_loadAt_mid _ bP _ _ [.int .i64 m.k, .string m.cl, .bool m.clean, .int .i64 m.keep, .bool m.wI, .string m.wT, .string m.wP, .int .i64 m.wQ, .bool m.wR, .string m.us, .bool m.hu, .string m.pa, .bool m.hp, .bool m.pres, .int .i64 m.code, .slice ac m.cs.length cc, .bool m.dup, .int .i64 m.q, .bool m.re, .string m.top, .int .i64 m.id, .string m.pay, .slice aw m.ws.length cw, .slice af m.fs.length cf, .slice ax xs.length cx] _ (fun j u hj => (Below.cell bW1 (p := ⟨bP, oP + i * 25 + j, none⟩) hbP).trans (hcP j u hj)) Tryd.underlying33 rfl (by kernel_rfl)))) ?_
      refine fw_al (t := 33) (u := fun q => .pointer (some ⟨q, 0, none⟩)) 6 [.int .i64 0, .string { data := #[] }, .bool false, .int .i64 0, .bool false, .string { data := #[] }, .string { data := #[] }, .int .i64 0, .bool false, .string { data := #[] }, .bool false, .string { data := #[] }, .bool false, .bool false, .int .i64 0, .slice none 0 0, .bool false, .int .i64 0, .bool false, .string { data := #[] }, .int .i64 0, .string { data := #[] }, .slice none 0 0, .slice none 0 0, .slice none 0 0] rfl rfl rfl (fun a h => (run_allocOp (by simp [go_sem, Instr.alloc]))) ?_
      intro q6 W7 g10 s8 r9
      have := Nat.le_trans bW1.size g10
      have b11 := bW1.trans (s8.mono bW1.size)
      refine fw_st r9 rfl rfl ?_
      intro W12 s13 r14
      have b15 := below_chg b11 s13 (by omega) b11.size
      refine fw_dt (fw_sq (fw_sq (fw_rg rfl (fw_ld r14 rfl rfl (fw_ca Tryd.func14 rfl rfl rfl ((heavy_any m ac aw af ax _ _ _ _ cc cw cf cx W12 hF (hL.below b15))) ?_)))))
      rintro _ V17 ⟨bH, rfl, hbH, hnear⟩
      refine ⟨(.bool bH), rfl, ?_⟩
      have b18 := b15.trans (hbH.mono b15.size)
      have r19 := r14.below hbH
      refine fw_dt ?_
      rcases Bool.eq_false_or_eq_true (bH) with hb_20 | hb_20
      · skip
        refine fw_cT rfl hb_20 (fw_sq (fw_rg rfl (fw_pu rfl (fw_dt (fw_rt (fw_tr (fw_br ?_)))))))
        iterate 2 refine fw_tr ?_
        refine fw_br (fw_tr ?_)
        refine ⟨fun a h => ?_⟩
        exact ow_ret1 rfl h.df (h.g 4 rfl) ⟨rfl, b18⟩
      refine fw_cF rfl hb_20 (fw_sk (fw_th (fw_sq (fw_sq ?_))))
      obtain ⟨hN3, hx3⟩ := hnear hb_20
      have hNc := hN3.cs
      have hNw := hN3.ws
      have hNf := hN3.fs
      refine fw_rg rfl ?_
      iterate 2 refine fw_pu rfl ?_
      refine fw_ld r19 rfl rfl ?_
      iterate 2 refine fw_pu rfl ?_
      refine fw_dt ?_
      rcases Bool.eq_false_or_eq_true ((m.k == kk)) with hb_21 | hb_21
      · skip
        refine fw_cF rfl (not_of hb_21) (fw_sk (fw_th (fw_sq ?_)))
        rcases Bool.eq_false_or_eq_true ((mayG m)) with hb_22 | hb_22
        · skip
          refine fw_rg rfl (fw_pu rfl (fw_ld r19 rfl rfl (fw_ca Tryd.func24 rfl rfl rfl ((bytesOk m _ _ _ _ _ _ _ _ _ V17 (hL.below b18) hF (hT.below b18) hb_22)) ?_)))
          rintro _ V23 ⟨_, aB, cB, rfl, rfl, hnB, hoB, hbB⟩
          refine ⟨_, rfl, ?_⟩
          have b24 := b18.trans (hbB.mono b18.size)
          have r25 := r19.below hbB
          iterate 5 refine fw_pu rfl ?_
          refine fw_dt (fw_sq ?_)
          have heL := (en_len hb_22).2
          refine fw_rg rfl (fw_pu rfl (fw_ld r25 rfl rfl ?_))
          refine fw_ca Tryd.func25 rfl rfl rfl ((by have h := mayX m ac aw af _ _ _ cc cw cf V23 (hL.below b24) hF ⟨by omega, by omega, by omega⟩ (hT.below b24); rw [mx_va, show (vaG m && baG m) = true from hb_22] at h; exact h)) ?_
          rintro _ V27 ⟨rfl, hb26⟩
          refine ⟨(.bool true), rfl, ?_⟩
          have b28 := b24.trans (hb26.mono b24.size)
          have r29 := r25.below hb26
          have f30 := (below_own hoB hb26)
          refine fw_pu rfl (fw_dt (fw_sq (fw_sq (fw_rg rfl ?_))))
          iterate 2 refine fw_pu rfl ?_
          refine fw_ca Tryd.func18 rfl rfl rfl ((num18_any 0 V27)) ?_
          rintro _ _ ⟨rfl, rfl⟩
          refine ⟨(.int .i64 0), rfl, ?_⟩
          refine fw_pu rfl ?_
          refine fw_ex 57 (.bool false) rfl rfl rfl (fun a h => (run_binOp (h.ev rfl) (h.ev rfl) (by simp [go_sem]) (by simp [go_sem]))) ?_
          iterate 5 refine fw_pu rfl ?_
          refine fw_ld r29 rfl rfl (fw_ca Tryd.func27 rfl rfl rfl ((rbytesX m ac aw af _ _ _ cc cw cf V27 (hL.below b28) (may_small hb_22) hb_22)) ?_)
          rintro _ V31 ⟨_, aR, cR, rfl, rfl, hoR, hbR⟩
          refine ⟨_, rfl, ?_⟩
          have b32 := b28.trans (hbR.mono b28.size)
          have r33 := r29.below hbR
          have f34 := (below_own f30 hbR)
          refine fw_ca Tryd.func20 rfl rfl rfl ((eqBytes_any _ _ (enG m) (enG m) V31 (by omega) (by omega) (Sl.of_own f34).1 (Sl.of_own hoR).1).mono fun e X h => (show e = .returned (.bool true) ∧ Below V31.heap.size V31 X from ⟨h.1.trans (by simp), by obtain ⟨m, rfl⟩ := h.2; exact bdrew (Below.refl _ _) m⟩)) ?_
          rintro _ V36 ⟨rfl, hb35⟩
          refine ⟨(.bool true), rfl, ?_⟩
          have b37 := b32.trans (hb35.mono b32.size)
          have r38 := r33.below hb35
          have f39 := (below_own f34 hb35)
          have f40 := (below_own hoR hb35)
          iterate 3 refine fw_pu rfl ?_
          refine fw_dt (fw_cF rfl rfl (fw_sk (fw_th (fw_sq (fw_sq (fw_rg rfl ?_))))))
          iterate 2 refine fw_pu rfl ?_
          refine fw_dt (fw_cF rfl rfl (fw_sk (fw_th (fw_sq ?_))))
          have hSm := may_small hb_22
          have hid := id_bd hb_22
          have he2 := en_two m
          have hkd := hd_k hb_22
          have hpe0 := pa_en0 hb_22
          have hkk := beq_iff_eq.1 hb_21
          have hScs := hSm.cs
          have hSws := hSm.ws
          have hSfs := hSm.fs
          have hStop := hSm.top
          have hSpa := hSm.pa
          refine fw_rg rfl (fw_pu rfl ?_)
          refine fw_ca Tryd.func16 rfl rfl rfl ((by have h := (parseN (n := (enG m).length) (ad := aB) (cd := cB) (l := enG m) (p := (m, (enG m).length, 0)) rfl hpe0 (Sl.of_own f39).1 (by omega) (hT.below b37)); dsimp only at h; exact h)) ?_
          rintro _ V41 ⟨acp, ccp, awp, cwp, afp, cfp, rfl, hOp, hbp⟩
          refine ⟨_, rfl, ?_⟩
          have b42 := b37.trans (hbp.mono b37.size)
          have r43 := r38.below hbp
          have f44 := (below_own f39 hbp)
          have f45 := (below_own f40 hbp)
          iterate 4 refine fw_pu rfl ?_
          refine fw_al (t := 30) (u := fun q => .pointer (some ⟨q, 0, none⟩)) 10 [.int .i64 0, .string { data := #[] }, .bool false, .int .i64 0, .bool false, .string { data := #[] }, .string { data := #[] }, .int .i64 0, .bool false, .string { data := #[] }, .bool false, .string { data := #[] }, .bool false, .bool false, .int .i64 0, .slice none 0 0, .bool false, .int .i64 0, .bool false, .string { data := #[] }, .int .i64 0, .string { data := #[] }, .slice none 0 0, .slice none 0 0] rfl rfl rfl (fun a h => (run_allocOp (by simp [go_sem, Instr.alloc]))) ?_
          intro q46 W47 g50 s48 r49
          have := Nat.le_trans b42.size g50
          have := r43.lt g50
          have hhoB_q46 := ob_new f44 g50
          have hhOp_q46 := OL3.ltq hOp g50
          have b51 := b42.trans (s48.mono b42.size)
          have r52 := r43.below s48
          have f53 := (below_own f44 s48)
          have f54 := (below_own f45 s48)
          have f55 := (hOp.below s48)
          refine fw_st r49 rfl rfl ?_
          intro W56 s57 r58
          have b59 := below_chg b51 s57 (by omega) b51.size
          have r60 := r52.chg s57 (by omega)
          have f61 := (ob_chg f53 s57 hhoB_q46)
          have f62 := (by first | exact OL3.chgN f55 s57 hhOp_q46 | exact OL3.chg f55 s57 (by omega))
          iterate 2 refine fw_pu rfl ?_
          refine fw_dt (fw_sq (fw_sq (fw_rg rfl (fw_pu rfl (fw_ca Tryd.func18 rfl rfl rfl ((num18_any 0 W56)) ?_)))))
          rintro _ _ ⟨rfl, rfl⟩
          refine ⟨(.int .i64 0), rfl, ?_⟩
          iterate 5 refine fw_pu rfl ?_
          refine fw_ex 84 (.bool false) rfl rfl rfl (fun a h => (run_binOp (h.ev rfl) (h.ev rfl) (eqIntI _ _ _ _ _ _ _) (neqIb _ _ _ false (beq_self_eq_true _)))) ?_
          iterate 2 refine fw_pu rfl ?_
          refine fw_ld r58 rfl rfl (fw_pu rfl (fw_ld r60 rfl rfl ?_))
          refine fw_ca Tryd.func19 rfl rfl rfl ((by have h := eqMq_any m m _ _ _ _ _ _ W56 (OL3.lists f62) (hL.below b59) (by omega) (by omega) (by omega) (by omega) (by omega) (by omega); rw [eqB_refl m] at h; exact h)) ?_
          rintro _ V64 ⟨rfl, hb63⟩
          refine ⟨(.bool true), rfl, ?_⟩
          have b65 := b59.trans (hb63.mono b59.size)
          have r66 := r60.below hb63
          have r67 := r58.below hb63
          have f68 := (below_own f61 hb63)
          have f69 := (f62.below hb63)
          iterate 5 refine fw_pu rfl ?_
          refine fw_ex 96 (.bool false) rfl rfl rfl (fun a h => (run_binOp (h.ev rfl) (h.ev rfl) (by simp [go_sem]) (lssIb _ _ _ false (decide_eq_false (by omega))))) ?_
          iterate 3 refine fw_pu rfl ?_
          obtain ⟨bX, oX, haX, hbX, hcX⟩ := sl_at (i := 0) (Sl.of_own f68).1 (show (enG m)[0]? = some (hdG m) from rfl)
          refine fw_ex 100 (.pointer (some ⟨bX, (oX + 0), none⟩)) rfl rfl rfl (fun a h => (run_indexOp (h.ev rfl) (h.ev rfl) (by rw [haX]; exact idxU8 _ _ _ _ 0 (by omega) _))) ?_
          refine fw_ex 101 ((B8 (hdG m))) rfl rfl rfl (fun a h => (run_loadOp (h.ev rfl) (ldU8 hcX))) ?_
          refine fw_ex 102 (.int .u8 (((hdG m).toNat / 16 : Nat) : Int)) rfl rfl rfl (fun a h => (run_binOp (h.ev rfl) (h.ev rfl) (by simp [go_sem]) (u8shr4 _ _))) ?_
          refine fw_ex 103 (.int .i64 (((hdG m).toNat / 16 : Nat) : Int)) rfl rfl rfl (fun a h => (run_convOp (h.ev rfl) (cv8I _ (by have := (hdG m).toNat_lt; omega) _))) ?_
          refine fw_pu rfl (fw_ex 105 (.bool false) rfl rfl rfl (fun a h => (run_binOp (h.ev rfl) (h.ev rfl) (eqIntI _ _ _ _ _ _ _) (neqIb _ _ _ false (beq_iff_eq.2 (hkd.trans hkk))))) (fw_pu rfl (fw_dt (fw_cF rfl rfl (fw_sk (fw_th (fw_sq (fw_sq (fw_rg rfl (fw_pu rfl (fw_dt (fw_bk ?_))))))))))))
          refine fw_lp (fun N K W => ∃ (j : Nat), N = 8 - j ∧ j ≤ 8 ∧ K = [(0, .slice aS L.length cS), (1, .int .i64 kk), (5, .int .i64 ((i : Nat) : Int)), (7, .slice aB (enG m).length cB), (10, .pointer (some ⟨q46, 0, none⟩)), (13, .int .i64 ((j : Nat) : Int))] ∧ Below w.heap.size w W ∧ RowAt W q46 (Mq.row m (.slice acp m.cs.length ccp) (.slice awp m.ws.length cwp) (.slice afp m.fs.length cfp)) ∧ OB W V17.heap.size aB cB (enG m) ∧ OL3 W V36.heap.size acp ccp awp cwp afp cfp m) _ _ ⟨0, rfl, (by omega), rfl, b65, r67, f68, f69⟩ ⟨rfl, rfl, rfl, rfl, rfl, (by first | rfl | (simp only [Look, cond, Nat.beq]; first | rfl | (congr 2; first | rfl | omega | (push_cast; omega)) | (simp; try omega))), trivial⟩ ?_
          rintro N _ W70 ⟨j, rfl, hjl, rfl, bW70, rW70_0, fW70_0, fW70_1⟩
          intro K72 hK72
          refine fw_sq (fw_sq (fw_rg rfl ?_))
          iterate 2 refine fw_pu rfl ?_
          refine fw_dt ?_
          rcases Bool.eq_false_or_eq_true ((decide (((j : Nat) : Int) < 8))) with hb_73 | hb_73
          · skip
            refine fw_cT rfl hb_73 (fw_sk (fw_th (fw_sq (fw_bk (fw_sq (fw_rg rfl (fw_ld rW70_0 rfl rfl ?_)))))))
            have hV74 := Below.refl W70.heap.size W70
            refine fw_ca Tryd.func23 rfl rfl rfl ((copyMq_any m _ _ _ W70 (OL3.lists fW70_1) (by omega) (by omega) (by omega))) ?_
            rintro _ V75 ⟨_, _, _, rfl, hbQ, hoQ⟩
            refine ⟨_, rfl, ?_⟩
            obtain ⟨acq, ccq, awq, cwq, afq, cfq, rfl, rfl, rfl⟩ := hoQ.slices
            have hOq := own_ol3 hoQ
            have hoC := hOq.c
            have hoW := hOq.w
            have hoF := hOq.f
            have b76 := bW70.trans (hbQ.mono bW70.size)
            have f77 := (hV74.trans (hbQ.mono hV74.size))
            refine fw_al (t := 30) (u := fun q => .pointer (some ⟨q, 0, none⟩)) 14 [.int .i64 0, .string { data := #[] }, .bool false, .int .i64 0, .bool false, .string { data := #[] }, .string { data := #[] }, .int .i64 0, .bool false, .string { data := #[] }, .bool false, .string { data := #[] }, .bool false, .bool false, .int .i64 0, .slice none 0 0, .bool false, .int .i64 0, .bool false, .string { data := #[] }, .int .i64 0, .string { data := #[] }, .slice none 0 0, .slice none 0 0] rfl rfl rfl (fun a h => (run_allocOp (by simp [go_sem, Instr.alloc]))) ?_
            intro q78 W79 g82 s80 r81
            have := Nat.le_trans b76.size g82
            have := Nat.le_trans f77.size g82
            have hhoC_q78 := ol_new hoC g82
            have hhoW_q78 := ol_new hoW g82
            have hhoF_q78 := ol_new hoF g82
            have b83 := b76.trans (s80.mono b76.size)
            have f84 := (f77.trans (s80.mono f77.size))
            have f85 := (below_own hoC s80)
            have f86 := (below_own hoW s80)
            have f87 := (below_own hoF s80)
            refine fw_st r81 rfl rfl ?_
            intro W88 s89 r90
            have b91 := below_chg b83 s89 (by omega) b83.size
            have f92 := (below_chg f84 s89 (by omega) f84.size)
            have f93 := (olC_chg f85 s89 hhoC_q78)
            have f94 := (olW_chg f86 s89 hhoW_q78)
            have f95 := (olF_chg f87 s89 hhoF_q78)
            refine fw_dt ?_
            refine fw_md (fun K W => ∃ (my : Mq) (xc : Option Addr) (xw : Option Addr) (xf : Option Addr) (kc : Nat) (kw : Nat) (kf : Nat), Fits my ∧ K = [(0, .slice aS L.length cS), (1, .int .i64 kk), (5, .int .i64 ((i : Nat) : Int)), (7, .slice aB (enG m).length cB), (10, .pointer (some ⟨q46, 0, none⟩)), (13, .int .i64 ((j : Nat) : Int)), (14, .pointer (some ⟨q78, 0, none⟩))] ∧ Below w.heap.size w W ∧ RowAt W q78 (Mq.row my (.slice xc my.cs.length kc) (.slice xw my.ws.length kw) (.slice xf my.fs.length kf)) ∧ Below W70.heap.size W70 W ∧ my.Lists W (.slice xc my.cs.length kc) (.slice xw my.ws.length kw) (.slice xf my.fs.length kf)) (fun K96 hK96 => ?_) ?_
            · skip
              refine fw_sq (fw_rg rfl (fw_pu rfl (fw_dt (fw_bk (fw_sq (fw_rg rfl ?_))))))
              iterate 2 refine fw_pu rfl ?_
              refine fw_dt ?_
              rcases Bool.eq_false_or_eq_true ((((j : Nat) : Int) == 0)) with hb_97 | hb_97
              · skip
                refine fw_cT rfl hb_97 (fw_rg rfl (fw_pu rfl (fw_ld r90 rfl rfl ?_)))
                refine fw_ex 118 (.int .i64 (m.id + 1)) rfl rfl rfl (fun a h => (run_binOp (h.ev rfl) (h.ev rfl) (by simp [go_sem]) (addIw _ _ _ _ (by omega) (by omega) (by omega)))) ?_
                refine fw_pu rfl (fw_st r90 rfl rfl ?_)
                intro W98 s99 r100
                have b101 := below_chg b91 s99 (by omega) b91.size
                have f102 := (below_chg f92 s99 (by omega) f92.size)
                have f103 := (olC_chg f93 s99 hhoC_q78)
                have f104 := (olW_chg f94 s99 hhoW_q78)
                have f105 := (olF_chg f95 s99 hhoF_q78)
                refine fw_dn (fw_bn ?_)
                exact fw_th (fw_gf (hK96 _ _ ⟨({ m with id := (m.id + 1) } : Mq), acq, awq, afq, ccq, cwq, cfq, fits_id hSm _, rfl, b101, r100, f102, ⟨olC_sl f103, olW_sl f104, olF_sl f105⟩⟩) ⟨rfl, rfl, rfl, rfl, rfl, rfl, rfl, trivial⟩)
              refine fw_cF rfl hb_97 (fw_sq (fw_rg rfl ?_))
              iterate 2 refine fw_pu rfl ?_
              refine fw_dt ?_
              rcases Bool.eq_false_or_eq_true ((((j : Nat) : Int) == 1)) with hb_106 | hb_106
              · skip
                refine fw_cT rfl hb_106 (fw_rg rfl (fw_pu rfl (fw_ld r90 rfl rfl ?_)))
                refine fw_ex 124 (.string (m.top ++ { data := #[35] })) rfl rfl rfl (fun a h => (run_binOp (h.ev rfl) (h.ev rfl) (by simp [go_sem]) (strAdd _ _ _ (Nat.le_trans (Nat.add_le_add_right hStop _) (by decide))))) ?_
                refine fw_pu rfl (fw_st r90 rfl rfl ?_)
                intro W107 s108 r109
                have b110 := below_chg b91 s108 (by omega) b91.size
                have f111 := (below_chg f92 s108 (by omega) f92.size)
                have f112 := (olC_chg f93 s108 hhoC_q78)
                have f113 := (olW_chg f94 s108 hhoW_q78)
                have f114 := (olF_chg f95 s108 hhoF_q78)
                refine fw_dn (fw_bn ?_)
                exact fw_th (fw_gf (hK96 _ _ ⟨({ m with top := (m.top ++ { data := #[35] }) } : Mq), acq, awq, afq, ccq, cwq, cfq, fits_top hSm, rfl, b110, r109, f111, ⟨olC_sl f112, olW_sl f113, olF_sl f114⟩⟩) ⟨rfl, rfl, rfl, rfl, rfl, rfl, rfl, trivial⟩)
              refine fw_cF rfl hb_106 (fw_sq (fw_rg rfl ?_))
              iterate 2 refine fw_pu rfl ?_
              refine fw_dt ?_
              rcases Bool.eq_false_or_eq_true ((((j : Nat) : Int) == 2)) with hb_115 | hb_115
              · skip
                refine fw_cT rfl hb_115 (fw_rg rfl (fw_pu rfl (fw_ld r90 rfl rfl ?_)))
                refine fw_al (t := 3) (u := fun q => .slice (some ⟨q, 0, none⟩) 1 1) 130 [.int .i64 3] rfl rfl rfl (fun a h => (run_buildInt1 (h.ev rfl))) ?_
                intro q116 W117 g120 s118 r119
                have := Nat.le_trans b91.size g120
                have := r90.lt g120
                have := Nat.le_trans f92.size g120
                have hhoC_q116 := ol_new f93 g120
                have hhoW_q116 := ol_new f94 g120
                have hhoF_q116 := ol_new f95 g120
                have b121 := b91.trans (s118.mono b91.size)
                have r122 := r90.below s118
                have f123 := (f92.trans (s118.mono f92.size))
                have f124 := (below_own f93 s118)
                have f125 := (below_own f94 s118)
                have f126 := (below_own f95 s118)
                refine fw_to 131 rfl rfl rfl (fun a h => olC_app (e := 3) _ _ rfl (h.ev rfl) f124 (h.ev rfl) r119 (by omega) f123.size) ?_
                rintro _ V127 ⟨L128, a128, c128, rfl, hL128, hg128, ho128⟩
                have hoff128 := grew_off hg128 hhoC_q78 r122.2.2
                have r129 := olC_row r122 hg128 hhoC_q78
                have f130 := olC_low f123 f124 hg128 (Nat.le_refl _) f123.size
                have b131 := bW70.trans (f130.mono bW70.size)
                have f132 := own_stay f125 hg128.1 (fun k hk e => (by have e := e.symm; have hk := hk; exact hoQ.cw k e hk))
                have f133 := own_stay f126 hg128.1 (fun k hk e => (by have e := e.symm; have hk := hk; exact hoQ.cf k e hk))
                refine fw_pu rfl (fw_st r129 rfl rfl ?_)
                intro W134 s135 r136
                have b137 := below_chg b131 s135 (by omega) b131.size
                have f138 := (below_chg f130 s135 (by omega) f130.size)
                have f139 := (olW_chg f132 s135 hhoW_q78)
                have f140 := (olF_chg f133 s135 hhoF_q78)
                have f141 := (olC_chg ho128 s135 hoff128)
                refine fw_dn (fw_bn ?_)
                exact fw_th (fw_gf (hK96 _ _ ⟨({ m with cs := L128 } : Mq), a128, awq, afq, c128, cwq, cfq, fits_cs hSm hL128, rfl, b137, r136, f138, ⟨olC_sl f141, olW_sl f139, olF_sl f140⟩⟩) ⟨rfl, rfl, rfl, rfl, rfl, rfl, rfl, trivial⟩)
              refine fw_cF rfl hb_115 (fw_sq (fw_rg rfl ?_))
              iterate 2 refine fw_pu rfl ?_
              refine fw_dt ?_
              rcases Bool.eq_false_or_eq_true ((((j : Nat) : Int) == 3)) with hb_142 | hb_142
              · skip
                refine fw_cT rfl hb_142 (fw_rg rfl (fw_pu rfl (fw_ld r90 rfl rfl ?_)))
                refine fw_ex 137 (.agg #[.string { data := #[] }, .int .i64 0]) rfl rfl rfl (fun a h => (run_buildOp (vs := #[]) (by simp) (by kernel_rfl))) ?_
                refine fw_al (t := 93) (u := fun q => .slice (some ⟨q, 0, none⟩) 1 1) 138 [.string { data := #[] }, .int .i64 0] rfl rfl rfl (fun a h => (run_buildWish1 (h.ev rfl))) ?_
                intro q143 W144 g147 s145 r146
                have := Nat.le_trans b91.size g147
                have := r90.lt g147
                have := Nat.le_trans f92.size g147
                have hhoC_q143 := ol_new f93 g147
                have hhoW_q143 := ol_new f94 g147
                have hhoF_q143 := ol_new f95 g147
                have b148 := b91.trans (s145.mono b91.size)
                have r149 := r90.below s145
                have f150 := (f92.trans (s145.mono f92.size))
                have f151 := (below_own f93 s145)
                have f152 := (below_own f94 s145)
                have f153 := (below_own f95 s145)
                refine fw_to 139 rfl rfl rfl (fun a h => olW_app (e := (⟨{ data := #[] }, 0⟩ : EWish)) _ _ rfl (h.ev rfl) f152 (h.ev rfl) r146 (by omega) f150.size) ?_
                rintro _ V154 ⟨L155, a155, c155, rfl, hL155, hg155, ho155⟩
                have hoff155 := grew_off hg155 hhoW_q78 r149.2.2
                have r156 := olW_row r149 hg155 hhoW_q78
                have f157 := olW_low f150 f152 hg155 (Nat.le_refl _) f150.size
                have b158 := bW70.trans (f157.mono bW70.size)
                have f159 := own_stay f151 hg155.1 (fun k hk e => (by have e := e.symm; have hk := hk; exact hoQ.cw k hk e))
                have f160 := own_stay f153 hg155.1 (fun k hk e => (by have e := e.symm; have hk := hk; exact hoQ.wf k e hk))
                refine fw_pu rfl (fw_st r156 rfl rfl ?_)
                intro W161 s162 r163
                have b164 := below_chg b158 s162 (by omega) b158.size
                have f165 := (below_chg f157 s162 (by omega) f157.size)
                have f166 := (olC_chg f159 s162 hhoC_q78)
                have f167 := (olF_chg f160 s162 hhoF_q78)
                have f168 := (olW_chg ho155 s162 hoff155)
                refine fw_dn (fw_bn ?_)
                exact fw_th (fw_gf (hK96 _ _ ⟨({ m with ws := L155 } : Mq), acq, a155, afq, ccq, c155, cfq, fits_ws hSm (by decide) hL155, rfl, b164, r163, f165, ⟨olC_sl f166, olW_sl f168, olF_sl f167⟩⟩) ⟨rfl, rfl, rfl, rfl, rfl, rfl, rfl, trivial⟩)
              refine fw_cF rfl hb_142 (fw_sq (fw_rg rfl ?_))
              iterate 2 refine fw_pu rfl ?_
              refine fw_dt ?_
              rcases Bool.eq_false_or_eq_true ((((j : Nat) : Int) == 4)) with hb_169 | hb_169
              · skip
                refine fw_cT rfl hb_169 (fw_rg rfl (fw_pu rfl (fw_ld r90 rfl rfl ?_)))
                refine fw_al (t := 9) (u := fun q => .slice (some ⟨q, 0, none⟩) 1 1) 145 [.string { data := #[0] }] rfl rfl rfl (fun a h => (run_buildStr1 (h.ev rfl))) ?_
                intro q170 W171 g174 s172 r173
                have := Nat.le_trans b91.size g174
                have := r90.lt g174
                have := Nat.le_trans f92.size g174
                have hhoC_q170 := ol_new f93 g174
                have hhoW_q170 := ol_new f94 g174
                have hhoF_q170 := ol_new f95 g174
                have b175 := b91.trans (s172.mono b91.size)
                have r176 := r90.below s172
                have f177 := (f92.trans (s172.mono f92.size))
                have f178 := (below_own f93 s172)
                have f179 := (below_own f94 s172)
                have f180 := (below_own f95 s172)
                refine fw_to 146 rfl rfl rfl (fun a h => olF_app (e := { data := #[0] }) _ _ rfl (h.ev rfl) f180 (h.ev rfl) r173 (by omega) f177.size) ?_
                rintro _ V181 ⟨L182, a182, c182, rfl, hL182, hg182, ho182⟩
                have hoff182 := grew_off hg182 hhoF_q78 r176.2.2
                have r183 := olF_row r176 hg182 hhoF_q78
                have f184 := olF_low f177 f180 hg182 (Nat.le_refl _) f177.size
                have b185 := bW70.trans (f184.mono bW70.size)
                have f186 := own_stay f178 hg182.1 (fun k hk e => (by have e := e.symm; have hk := hk; exact hoQ.cf k hk e))
                have f187 := own_stay f179 hg182.1 (fun k hk e => (by have e := e.symm; have hk := hk; exact hoQ.wf k hk e))
                refine fw_pu rfl (fw_st r183 rfl rfl ?_)
                intro W188 s189 r190
                have b191 := below_chg b185 s189 (by omega) b185.size
                have f192 := (below_chg f184 s189 (by omega) f184.size)
                have f193 := (olC_chg f186 s189 hhoC_q78)
                have f194 := (olW_chg f187 s189 hhoW_q78)
                have f195 := (olF_chg ho182 s189 hoff182)
                refine fw_dn (fw_bn ?_)
                exact fw_th (fw_gf (hK96 _ _ ⟨({ m with fs := L182 } : Mq), acq, awq, a182, ccq, cwq, c182, fits_fs hSm (by decide) hL182, rfl, b191, r190, f192, ⟨olC_sl f193, olW_sl f194, olF_sl f195⟩⟩) ⟨rfl, rfl, rfl, rfl, rfl, rfl, rfl, trivial⟩)
              refine fw_cF rfl hb_169 (fw_sq (fw_rg rfl ?_))
              iterate 2 refine fw_pu rfl ?_
              refine fw_dt ?_
              rcases Bool.eq_false_or_eq_true ((((j : Nat) : Int) == 5)) with hb_196 | hb_196
              · skip
                refine fw_cT rfl hb_196 (fw_rg rfl ?_)
                iterate 2 refine fw_pu rfl ?_
                refine fw_st r90 rfl rfl ?_
                intro W197 s198 r199
                have b200 := below_chg b91 s198 (by omega) b91.size
                have f201 := (below_chg f92 s198 (by omega) f92.size)
                have f202 := (olC_chg f93 s198 hhoC_q78)
                have f203 := (olW_chg f94 s198 hhoW_q78)
                have f204 := (olF_chg f95 s198 hhoF_q78)
                refine fw_dn (fw_bn ?_)
                exact fw_th (fw_gf (hK96 _ _ ⟨({ m with wQ := 3 } : Mq), acq, awq, afq, ccq, cwq, cfq, fits_wQ hSm _, rfl, b200, r199, f201, ⟨olC_sl f202, olW_sl f203, olF_sl f204⟩⟩) ⟨rfl, rfl, rfl, rfl, rfl, rfl, rfl, trivial⟩)
              refine fw_cF rfl hb_196 (fw_sq (fw_rg rfl ?_))
              iterate 2 refine fw_pu rfl ?_
              refine fw_dt ?_
              rcases Bool.eq_false_or_eq_true ((((j : Nat) : Int) == 6)) with hb_205 | hb_205
              · skip
                refine fw_cT rfl hb_205 (fw_rg rfl (fw_pu rfl (fw_ld r90 rfl rfl ?_)))
                refine fw_ex 156 (.string (m.pa ++ { data := #[120] })) rfl rfl rfl (fun a h => (run_binOp (h.ev rfl) (h.ev rfl) (by simp [go_sem]) (strAdd _ _ _ (Nat.le_trans (Nat.add_le_add_right hSpa _) (by decide))))) ?_
                refine fw_pu rfl (fw_st r90 rfl rfl ?_)
                intro W206 s207 r208
                have b209 := below_chg b91 s207 (by omega) b91.size
                have f210 := (below_chg f92 s207 (by omega) f92.size)
                have f211 := (olC_chg f93 s207 hhoC_q78)
                have f212 := (olW_chg f94 s207 hhoW_q78)
                have f213 := (olF_chg f95 s207 hhoF_q78)
                refine fw_dn (fw_bn ?_)
                exact fw_th (fw_gf (hK96 _ _ ⟨({ m with pa := (m.pa ++ { data := #[120] }) } : Mq), acq, awq, afq, ccq, cwq, cfq, fits_pa hSm, rfl, b209, r208, f210, ⟨olC_sl f211, olW_sl f212, olF_sl f213⟩⟩) ⟨rfl, rfl, rfl, rfl, rfl, rfl, rfl, trivial⟩)
              refine fw_cF rfl hb_205 (fw_sq (fw_rg rfl ?_))
              iterate 2 refine fw_pu rfl ?_
              refine fw_dt ?_
              rcases Bool.eq_false_or_eq_true ((((j : Nat) : Int) == 7)) with hb_214 | hb_214
              · skip
                refine fw_cT rfl hb_214 (fw_rg rfl (fw_pu rfl (fw_ld r90 rfl rfl ?_)))
                iterate 2 refine fw_pu rfl ?_
                refine fw_st r90 rfl rfl ?_
                intro W215 s216 r217
                have b218 := below_chg b91 s216 (by omega) b91.size
                have f219 := (below_chg f92 s216 (by omega) f92.size)
                have f220 := (olC_chg f93 s216 hhoC_q78)
                have f221 := (olW_chg f94 s216 hhoW_q78)
                have f222 := (olF_chg f95 s216 hhoF_q78)
                refine fw_dn (fw_bn ?_)
                exact fw_th (fw_gf (hK96 _ _ ⟨({ m with pres := (!m.pres) } : Mq), acq, awq, afq, ccq, cwq, cfq, fits_pres hSm _, rfl, b218, r217, f219, ⟨olC_sl f220, olW_sl f221, olF_sl f222⟩⟩) ⟨rfl, rfl, rfl, rfl, rfl, rfl, rfl, trivial⟩)
              refine fw_cF rfl hb_214 (fw_sk (fw_bn ?_))
              exact fw_th (fw_gf (hK96 _ _ ⟨m, acq, awq, afq, ccq, cwq, cfq, fits hSm, rfl, b91, r90, f92, ⟨olC_sl f93, olW_sl f94, olF_sl f95⟩⟩) ⟨rfl, rfl, rfl, rfl, rfl, rfl, rfl, trivial⟩)
            rintro _ W223 ⟨my, xc, xw, xf, kc, kw, kf, hFy, rfl, bW223, rW223_0, fW223_0, gW223_0⟩
            refine fw_sq ?_
            rcases Bool.eq_false_or_eq_true ((mayG my)) with hb_225 | hb_225
            · skip
              refine fw_hr (fun X => Below w.heap.size w X ∧ RowAt X q78 (Mq.row my (.slice xc my.cs.length kc) (.slice xw my.ws.length kw) (.slice xf my.fs.length kf))) (by kernel_rfl) 7 rfl ?_
              intro W226 s227
              have b228 := bW223.trans (s227.mono bW223.size)
              have r229 := rW223_0.below s227
              have f230 := (fW223_0.trans (s227.mono fW223_0.size))
              have f231 := (gW223_0.below s227)
              refine ⟨⟨b228, r229⟩, ?_⟩
              refine fw_tl 0 (fun _ h => h.2) rfl rfl rfl (by kernel_rfl) (fun _ _ _ _ _ h => h) ?_
              refine fw_tl 4 (fun _ h => h.2) rfl rfl rfl (by kernel_rfl) (fun _ _ _ _ _ h => h) ?_
              refine fw_o1 1 (by kernel_rfl) ?_
              refine fw_oc rfl Tryd.func26 rfl rfl rfl ((by have h := checkG my xc xw xf _ _ _ kc kw kf W226 f231 hFy.1 (hT.below b228); rw [if_pos hb_225] at h; exact h)) ?_
              rintro _ V233 ⟨rfl, hb232⟩
              refine ⟨(.int .i64 0), rfl, ?_⟩
              have b234 := b228.trans (hb232.mono b228.size)
              have r235 := r229.below hb232
              have f236 := (f230.trans (hb232.mono f230.size))
              have f237 := (f231.below hb232)
              refine ⟨⟨b234, r235⟩, ?_⟩
              refine fw_o1 2 (by kernel_rfl) ?_
              refine fw_oc rfl Tryd.func18 rfl rfl rfl ((num18_any 0 V233)) ?_
              rintro _ _ ⟨rfl, rfl⟩
              refine ⟨(.int .i64 0), rfl, ?_⟩
              refine ⟨⟨b234, r235⟩, ?_⟩
              refine fw_tk 3 rfl rfl (by kernel_rfl) (fun _ _ _ _ _ h => h) ?_
              refine fw_o1 5 (by kernel_rfl) ?_
              refine fw_oc rfl Tryd.func25 rfl rfl rfl ((by have h := mayX my xc xw xf _ _ _ kc kw kf V233 f237 hFy.1 hFy.2 (hT.below b234); rw [mx_va, show (vaG my && baG my) = true from hb_225] at h; exact h)) ?_
              rintro _ V239 ⟨rfl, hb238⟩
              refine ⟨(.bool true), rfl, ?_⟩
              have b240 := b234.trans (hb238.mono b234.size)
              have r241 := r235.below hb238
              have f242 := (f236.trans (hb238.mono f236.size))
              have f243 := (f237.below hb238)
              refine ⟨⟨b240, r241⟩, ?_⟩
              refine fw_tx 6 170 (.bool false) rfl rfl rfl rfl (fun a h W hW => by obtain ⟨b240, r241⟩ := hW; exact (run_binOp (h.ev rfl) (h.ev rfl) (by simp [go_sem]) (by simp [go_sem]))) (by kernel_rfl) (fun _ _ _ _ _ h => h) ?_
              refine fw_ht (by kernel_rfl) ?_
              refine fw_cF rfl rfl (fw_sk (fw_bn (fw_th ?_)))
              have b244 := bW70.trans (f242.mono bW70.size)
              have r245 := rW70_0.below f242
              have f246 := (below_own fW70_0 f242)
              have f247 := (fW70_1.below f242)
              refine fw_rg rfl (fw_pu rfl ?_)
              refine fw_ex 110 (.int .i64 (((j + 1) : Nat) : Int)) rfl rfl rfl (fun a h => (run_binOp (h.ev rfl) (h.ev rfl) (by simp [go_sem]) (addIw _ _ _ _ (by omega) (by omega) (by omega)))) ?_
              refine fw_pu rfl (fw_dn ?_)
              exact fw_th (fw_gf (hK72 _ _ _ (by have h := of_decide_eq_true hb_73; omega) ⟨(j + 1), rfl, (by have h := of_decide_eq_true hb_73; omega), rfl, b244, r245, f246, f247⟩) ⟨rfl, rfl, rfl, rfl, rfl, (by first | rfl | (simp only [Look, cond, Nat.beq]; first | rfl | (congr 2; first | rfl | omega | (push_cast; omega)) | (simp; try omega))), trivial⟩)
            refine fw_hr (fun X => Below w.heap.size w X ∧ RowAt X q78 (Mq.row my (.slice xc my.cs.length kc) (.slice xw my.ws.length kw) (.slice xf my.fs.length kf))) (by kernel_rfl) 7 rfl ?_
            intro W248 s249
            have b250 := bW223.trans (s249.mono bW223.size)
            have r251 := rW223_0.below s249
            have f252 := (fW223_0.trans (s249.mono fW223_0.size))
            have f253 := (gW223_0.below s249)
            refine ⟨⟨b250, r251⟩, ?_⟩
            refine fw_tl 0 (fun _ h => h.2) rfl rfl rfl (by kernel_rfl) (fun _ _ _ _ _ h => h) ?_
            refine fw_tl 4 (fun _ h => h.2) rfl rfl rfl (by kernel_rfl) (fun _ _ _ _ _ h => h) ?_
            refine fw_o1 1 (by kernel_rfl) ?_
            refine fw_oc rfl Tryd.func26 rfl rfl rfl ((by have h := checkG my xc xw xf _ _ _ kc kw kf W248 f253 hFy.1 (hT.below b250); rw [if_neg (by rw [hb_225]; simp)] at h; exact h)) ?_
            rintro _ V255 ⟨rfl, hb254⟩
            refine ⟨(.int .i64 1), rfl, ?_⟩
            have b256 := b250.trans (hb254.mono b250.size)
            have r257 := r251.below hb254
            have f258 := (f252.trans (hb254.mono f252.size))
            have f259 := (f253.below hb254)
            refine ⟨⟨b256, r257⟩, ?_⟩
            refine fw_o1 2 (by kernel_rfl) ?_
            refine fw_oc rfl Tryd.func18 rfl rfl rfl ((num18_any 1 V255)) ?_
            rintro _ _ ⟨rfl, rfl⟩
            refine ⟨(.int .i64 1), rfl, ?_⟩
            refine ⟨⟨b256, r257⟩, ?_⟩
            refine fw_tk 3 rfl rfl (by kernel_rfl) (fun _ _ _ _ _ h => h) ?_
            refine fw_o1 5 (by kernel_rfl) ?_
            refine fw_oc rfl Tryd.func25 rfl rfl rfl ((by have h := mayX my xc xw xf _ _ _ kc kw kf V255 f259 hFy.1 hFy.2 (hT.below b256); rw [mx_va, show (vaG my && baG my) = false from hb_225] at h; exact h)) ?_
            rintro _ V261 ⟨rfl, hb260⟩
            refine ⟨(.bool false), rfl, ?_⟩
            have b262 := b256.trans (hb260.mono b256.size)
            have r263 := r257.below hb260
            have f264 := (f258.trans (hb260.mono f258.size))
            have f265 := (f259.below hb260)
            refine ⟨⟨b262, r263⟩, ?_⟩
            refine fw_tx 6 170 (.bool false) rfl rfl rfl rfl (fun a h W hW => by obtain ⟨b262, r263⟩ := hW; exact (run_binOp (h.ev rfl) (h.ev rfl) (by simp [go_sem]) (by simp [go_sem]))) (by kernel_rfl) (fun _ _ _ _ _ h => h) ?_
            refine fw_ht (by kernel_rfl) ?_
            refine fw_cF rfl rfl (fw_sk (fw_bn (fw_th ?_)))
            have b266 := bW70.trans (f264.mono bW70.size)
            have r267 := rW70_0.below f264
            have f268 := (below_own fW70_0 f264)
            have f269 := (fW70_1.below f264)
            refine fw_rg rfl (fw_pu rfl ?_)
            refine fw_ex 110 (.int .i64 (((j + 1) : Nat) : Int)) rfl rfl rfl (fun a h => (run_binOp (h.ev rfl) (h.ev rfl) (by simp [go_sem]) (addIw _ _ _ _ (by omega) (by omega) (by omega)))) ?_
            refine fw_pu rfl (fw_dn ?_)
            exact fw_th (fw_gf (hK72 _ _ _ (by have h := of_decide_eq_true hb_73; omega) ⟨(j + 1), rfl, (by have h := of_decide_eq_true hb_73; omega), rfl, b266, r267, f268, f269⟩) ⟨rfl, rfl, rfl, rfl, rfl, (by first | rfl | (simp only [Look, cond, Nat.beq]; first | rfl | (congr 2; first | rfl | omega | (push_cast; omega)) | (simp; try omega))), trivial⟩)
          refine fw_cF rfl hb_73 (fw_xt (fw_te (fw_te (fw_be (fw_th (fw_sq (fw_rg rfl (fw_pu rfl (fw_dt (fw_bk ?_))))))))))
          refine fw_lp (fun N K W => ∃ (j : Nat), N = 16 - j ∧ j ≤ 16 ∧ K = [(0, .slice aS L.length cS), (1, .int .i64 kk), (5, .int .i64 ((i : Nat) : Int)), (7, .slice aB (enG m).length cB), (15, .int .i64 ((j : Nat) : Int))] ∧ Below w.heap.size w W ∧ OB W V17.heap.size aB cB (enG m)) _ _ ⟨1, rfl, (by omega), rfl, bW70, fW70_0⟩ ⟨rfl, rfl, rfl, rfl, (by first | rfl | (simp only [Look, cond, Nat.beq]; first | rfl | (congr 2; first | rfl | omega | (push_cast; omega)) | (simp; try omega))), trivial⟩ ?_
          rintro N _ W270 ⟨j, rfl, hjl, rfl, bW270, fW270_0⟩
          intro K272 hK272
          refine fw_sq (fw_sq (fw_rg rfl ?_))
          iterate 2 refine fw_pu rfl ?_
          refine fw_dt ?_
          rcases Bool.eq_false_or_eq_true ((decide (((j : Nat) : Int) < 16))) with hb_273 | hb_273
          · skip
            refine fw_cT rfl hb_273 (fw_sk (fw_th (fw_sq (fw_bk (fw_sq (fw_rg rfl (fw_pu rfl ?_)))))))
            have hV274 := Below.refl W270.heap.size W270
            refine fw_ca Tryd.func15 rfl rfl rfl ((copyBytes_any _ (enG m) W270 (by omega) (Sl.of_own fW270_0).1)) ?_
            rintro _ V275 ⟨vC, rfl, hbC, hoC⟩
            refine ⟨_, rfl, ?_⟩
            obtain ⟨aC, cC, rfl⟩ := own_slice hoC
            obtain ⟨gC, rfl⟩ := own_ptr hoC (by omega)
            have hgV := (own_caps hoC).2.2
            have b276 := bW270.trans (hbC.mono bW270.size)
            have f277 := (hV274.trans (hbC.mono hV274.size))
            refine fw_pu rfl (fw_dt (fw_sq (fw_rg rfl ?_)))
            iterate 2 refine fw_pu rfl ?_
            refine fw_ex 179 (.pointer (some ⟨gC, 0, none⟩)) rfl rfl rfl (fun a h => (run_indexOp (h.ev rfl) (h.ev rfl) (idxU8 _ 0 _ _ 0 (by omega) _))) ?_
            refine fw_ex 180 ((B8 (hdG m))) rfl rfl rfl (fun a h => (run_loadOp (h.ev rfl) (ldU8 ((own_rowD hoC).1 0 _ rfl)))) (fw_pu rfl (fw_ex 182 ((B8 (b8I ((j : Nat) : Int)))) rfl rfl rfl (fun a h => (run_convOp (h.ev rfl) (cvI8 _ _))) ?_))
            refine fw_ex 183 ((B8 (hdG m ^^^ b8I ((j : Nat) : Int)))) rfl rfl rfl (fun a h => (run_binOp (h.ev rfl) (h.ev rfl) (by simp [go_sem]) (u8xor _ _ _))) ?_
            refine fw_ex 184 (.pointer (some ⟨gC, 0, none⟩)) rfl rfl rfl (fun a h => (run_indexOp (h.ev rfl) (h.ev rfl) (idxU8 _ 0 _ _ 0 (by omega) _))) ?_
            refine fw_so hoC rfl (show 0 < ((enG m).map B8).length by rw [List.length_map]; omega) rfl ?_
            intro V278 sS oS
            have f279 := below_chg f277 sS hgV f277.size
            have b280 := bW270.trans (f279.mono bW270.size)
            have hoY := flip_ob oS
            refine fw_dt (fw_sq (fw_rg rfl (fw_pu rfl ?_)))
            obtain ⟨pm, pn, pe, hP⟩ : ∃ x y z, paG (flipG m (hdG m ^^^ b8I ((j : Nat) : Int))) = (x, y, z) := ⟨_, _, _, rfl⟩
            refine fw_ca Tryd.func16 rfl rfl rfl ((by have h := (parseN (n := (enG m).length) (ad := some ⟨gC, 0, none⟩) (cd := cC) (l := flipG m (hdG m ^^^ b8I ((j : Nat) : Int))) (p := (pm, pn, pe)) (flip_len _ _) hP (Sl.of_own hoY).1 (by rw [← flip_len]; omega) (hT.below b280)); dsimp only at h; exact h)) ?_
            rintro _ V281 ⟨acy, ccy, awy, cwy, afy, cfy, rfl, -, hby⟩
            refine ⟨_, rfl, ?_⟩
            have b282 := b280.trans (hby.mono b280.size)
            have f283 := (f279.trans (hby.mono f279.size))
            have f284 := (below_own hoY hby)
            iterate 4 refine fw_pu rfl ?_
            refine fw_al (t := 30) (u := fun q => .pointer (some ⟨q, 0, none⟩)) 17 [.int .i64 0, .string { data := #[] }, .bool false, .int .i64 0, .bool false, .string { data := #[] }, .string { data := #[] }, .int .i64 0, .bool false, .string { data := #[] }, .bool false, .string { data := #[] }, .bool false, .bool false, .int .i64 0, .slice none 0 0, .bool false, .int .i64 0, .bool false, .string { data := #[] }, .int .i64 0, .string { data := #[] }, .slice none 0 0, .slice none 0 0] rfl rfl rfl (fun a h => (run_allocOp (by simp [go_sem, Instr.alloc]))) ?_
            intro q285 W286 g289 s287 r288
            have := Nat.le_trans b282.size g289
            have := Nat.le_trans f283.size g289
            have hhoY_q285 := ob_new f284 g289
            have b290 := b282.trans (s287.mono b282.size)
            have f291 := (f283.trans (s287.mono f283.size))
            have f292 := (below_own f284 s287)
            refine fw_st r288 rfl rfl ?_
            intro W293 s294 r295
            have b296 := below_chg b290 s294 (by omega) b290.size
            have f297 := (below_chg f291 s294 (by omega) f291.size)
            have f298 := (ob_chg f292 s294 hhoY_q285)
            iterate 2 refine fw_pu rfl ?_
            refine fw_dt (fw_sq (fw_rg rfl (fw_pu rfl ?_)))
            refine fw_ca Tryd.func17 rfl rfl rfl ((by have h := (rparseX (ad := some ⟨gC, 0, none⟩) (cd := cC) (l := flipG m (hdG m ^^^ b8I ((j : Nat) : Int))) (Sl.of_own f298).1 (by rw [← flip_len]; omega) (hT.below b296)); rw [hP] at h; dsimp only at h; exact h)) ?_
            rintro _ V299 ⟨acz, ccz, awz, cwz, afz, cfz, rfl, -, hbz⟩
            refine ⟨_, rfl, ?_⟩
            have b300 := b296.trans (hbz.mono b296.size)
            have r301 := r295.below hbz
            have f302 := (f297.trans (hbz.mono f297.size))
            have f303 := (below_own f298 hbz)
            iterate 4 refine fw_pu rfl ?_
            refine fw_al (t := 30) (u := fun q => .pointer (some ⟨q, 0, none⟩)) 20 [.int .i64 0, .string { data := #[] }, .bool false, .int .i64 0, .bool false, .string { data := #[] }, .string { data := #[] }, .int .i64 0, .bool false, .string { data := #[] }, .bool false, .string { data := #[] }, .bool false, .bool false, .int .i64 0, .slice none 0 0, .bool false, .int .i64 0, .bool false, .string { data := #[] }, .int .i64 0, .string { data := #[] }, .slice none 0 0, .slice none 0 0] rfl rfl rfl (fun a h => (run_allocOp (by simp [go_sem, Instr.alloc]))) ?_
            intro q304 W305 g308 s306 r307
            have := Nat.le_trans b300.size g308
            have := r301.lt g308
            have := Nat.le_trans f302.size g308
            have hhoY_q304 := ob_new f303 g308
            have b309 := b300.trans (s306.mono b300.size)
            have r310 := r301.below s306
            have f311 := (f302.trans (s306.mono f302.size))
            have f312 := (below_own f303 s306)
            refine fw_st r307 rfl rfl ?_
            intro W313 s314 r315
            have b316 := below_chg b309 s314 (by omega) b309.size
            have r317 := r310.chg s314 (by omega)
            have f318 := (below_chg f311 s314 (by omega) f311.size)
            have f319 := (ob_chg f312 s314 hhoY_q304)
            iterate 2 refine fw_pu rfl ?_
            refine fw_dt (fw_sq (fw_rg rfl (fw_pu rfl (fw_ca Tryd.func18 rfl rfl rfl ((num18_any pe W313)) ?_))))
            rintro _ _ ⟨rfl, rfl⟩
            refine ⟨(.int .i64 pe), rfl, ?_⟩
            refine fw_pu rfl (fw_ex 200 (.bool false) rfl rfl rfl (fun a h => (run_binOp (h.ev rfl) (h.ev rfl) (eqIntI _ _ _ _ _ _ _) (neqIb _ _ _ false (beq_self_eq_true _)))) (fw_dt (fw_cF rfl rfl (fw_sk (fw_bn (fw_th ?_))))))
            have b320 := bW270.trans (f318.mono bW270.size)
            have f321 := (below_own fW270_0 f318)
            refine fw_rg rfl (fw_pu rfl ?_)
            refine fw_ex 174 (.int .i64 (((j + 1) : Nat) : Int)) rfl rfl rfl (fun a h => (run_binOp (h.ev rfl) (h.ev rfl) (by simp [go_sem]) (addIw _ _ _ _ (by omega) (by omega) (by omega)))) ?_
            refine fw_pu rfl (fw_dn ?_)
            exact fw_th (fw_gf (hK272 _ _ _ (by have h := of_decide_eq_true hb_273; omega) ⟨(j + 1), rfl, (by have h := of_decide_eq_true hb_273; omega), rfl, b320, f321⟩) ⟨rfl, rfl, rfl, rfl, (by first | rfl | (simp only [Look, cond, Nat.beq]; first | rfl | (congr 2; first | rfl | omega | (push_cast; omega)) | (simp; try omega))), trivial⟩)
          refine fw_cF rfl hb_273 (fw_xt (fw_te (fw_te (fw_be (fw_bn (fw_th (fw_rg rfl (fw_pu rfl ?_))))))))
          refine fw_ex 32 (.int .i64 (((i + 1) : Nat) : Int)) rfl rfl rfl (fun a h => (run_binOp (h.ev rfl) (h.ev rfl) (by simp [go_sem]) (addIw _ _ _ _ (by omega) (by omega) (by omega)))) ?_
          refine fw_pu rfl (fw_dn ?_)
          exact fw_th (fw_gf (hK3 _ _ _ (by omega) ⟨(i + 1), rfl, (by omega), rfl, bW270⟩) ⟨rfl, rfl, (by first | rfl | (simp only [Look, cond, Nat.beq]; first | rfl | (congr 2; first | rfl | omega | (push_cast; omega)) | (simp; try omega))), trivial⟩)
        refine fw_rg rfl (fw_pu rfl (fw_ld r19 rfl rfl (fw_ca Tryd.func24 rfl rfl rfl ((bytesNo m _ _ _ _ _ _ _ _ _ V17 (hL.below b18) hF (hT.below b18) hb_22)) ?_)))
        rintro _ V322 ⟨rfl, hbB⟩
        refine ⟨_, rfl, ?_⟩
        have b323 := b18.trans (hbB.mono b18.size)
        have r324 := r19.below hbB
        iterate 5 refine fw_pu rfl ?_
        refine fw_dt (fw_sq (fw_rg rfl (fw_pu rfl (fw_ld r324 rfl rfl ?_))))
        refine fw_ca Tryd.func25 rfl rfl rfl ((by have h := mayX m ac aw af _ _ _ cc cw cf V322 (hL.below b323) hF ⟨by omega, by omega, by omega⟩ (hT.below b323); rw [mx_va, show (vaG m && baG m) = false from hb_22] at h; exact h)) ?_
        rintro _ V326 ⟨rfl, hb325⟩
        refine ⟨(.bool false), rfl, ?_⟩
        have b327 := b323.trans (hb325.mono b323.size)
        have r328 := r324.below hb325
        refine fw_pu rfl (fw_dt (fw_sq (fw_sq (fw_rg rfl ?_))))
        iterate 2 refine fw_pu rfl ?_
        refine fw_ca Tryd.func18 rfl rfl rfl ((num18_any 1 V326)) ?_
        rintro _ _ ⟨rfl, rfl⟩
        refine ⟨(.int .i64 1), rfl, ?_⟩
        refine fw_pu rfl ?_
        refine fw_ex 57 (.bool false) rfl rfl rfl (fun a h => (run_binOp (h.ev rfl) (h.ev rfl) (by simp [go_sem]) (by simp [go_sem]))) ?_
        iterate 11 refine fw_pu rfl ?_
        refine fw_dt (fw_cF rfl rfl (fw_sk (fw_th (fw_sq (fw_sq (fw_rg rfl ?_))))))
        iterate 2 refine fw_pu rfl ?_
        refine fw_dt (fw_cT rfl rfl (fw_xt (fw_te (fw_be (fw_th (fw_rg rfl (fw_pu rfl ?_)))))))
        refine fw_ex 32 (.int .i64 (((i + 1) : Nat) : Int)) rfl rfl rfl (fun a h => (run_binOp (h.ev rfl) (h.ev rfl) (by simp [go_sem]) (addIw _ _ _ _ (by omega) (by omega) (by omega)))) ?_
        refine fw_pu rfl (fw_dn ?_)
        exact fw_th (fw_gf (hK3 _ _ _ (by omega) ⟨(i + 1), rfl, (by omega), rfl, b327⟩) ⟨rfl, rfl, (by first | rfl | (simp only [Look, cond, Nat.beq]; first | rfl | (congr 2; first | rfl | omega | (push_cast; omega)) | (simp; try omega))), trivial⟩)
      refine fw_cT rfl (not_of hb_21) (fw_xt (fw_te (fw_be (fw_th (fw_rg rfl (fw_pu rfl ?_))))))
      refine fw_ex 32 (.int .i64 (((i + 1) : Nat) : Int)) rfl rfl rfl (fun a h => (run_binOp (h.ev rfl) (h.ev rfl) (by simp [go_sem]) (addIw _ _ _ _ (by omega) (by omega) (by omega)))) ?_
      refine fw_pu rfl (fw_dn ?_)
      exact fw_th (fw_gf (hK3 _ _ _ (by omega) ⟨(i + 1), rfl, (by omega), rfl, b18⟩) ⟨rfl, rfl, (by first | rfl | (simp only [Look, cond, Nat.beq]; first | rfl | (congr 2; first | rfl | omega | (push_cast; omega)) | (simp; try omega))), trivial⟩)
    refine fw_cF rfl hb_5 (fw_xt (fw_te (fw_te (fw_be (fw_th (fw_sq (fw_rg rfl (fw_ca Tryd.func22 rfl rfl rfl ((wakesG (hT.below bW1))) ?_))))))))
    rintro _ V330 ⟨rfl, hb329⟩
    refine ⟨(.bool true), rfl, ?_⟩
    have b331 := bW1.trans (hb329.mono bW1.size)
    refine fw_pu rfl (fw_dt (fw_rt ?_))
    refine ⟨fun a h => ?_⟩
    exact ow_ret1 rfl h.df (h.g 4 rfl) ⟨rfl, b331⟩
  refine fw_kn 27 rfl hb_4 ?_
  iterate 3 refine fw_pu rfl ?_
  refine fw_dt (fw_cF rfl rfl (fw_xt (fw_te (fw_te (fw_be (fw_th (fw_sq (fw_rg rfl (fw_ca Tryd.func22 rfl rfl rfl ((wakesG (hT.below bW1))) ?_)))))))))
  rintro _ V333 ⟨rfl, hb332⟩
  refine ⟨(.bool true), rfl, ?_⟩
  have b334 := bW1.trans (hb332.mono bW1.size)
  refine fw_pu rfl (fw_dt (fw_rt ?_))
  refine ⟨fun a h => ?_⟩
  exact ow_ret1 rfl h.df (h.g 4 rfl) ⟨rfl, b334⟩
end
end Go.Proofs.YtpgnlhfokffioaaDoor
