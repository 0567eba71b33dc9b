/-
  Packets: what the laws lean on.
-/
import Derived.Test.YtpgnlhfokffioaaDoorKeE
namespace Go.Proofs.YtpgnlhfokffioaaDoor
section
open Go.RowKit Go.Lib
theorem own_rowD {W : World} {B t sz g n cap : Nat} {xs : List Value} (h : W.ownsRow B t sz (.slice (some ⟨g, 0, none⟩) n cap) n xs) : RowAt W g xs := by
  rcases h.2 with ⟨h1, -⟩ | ⟨g', cap', cur, e, -, hh, h1, h2, h3, h4⟩
  · cases h1
  · injection e with e; injection e with e; injection e with e e2
    subst e
    refine ⟨fun j v hj => ?_, fun j => ?_, ?_⟩
    · rw [← h4, List.getElem?_take] at hj
      split at hj
      · simp [World.cell?, hh]
        simpa using hj
      · cases hj
    · simp [World.frozen?, hh]
    · rcases Nat.lt_or_ge g W.heap.size with h | h
      · exact h
      · rw [Array.getElem?_eq_none h] at hh; simp at hh
theorem own_caps {W : World} {B t sz g n cap : Nat} {xs : List Value} (h : W.ownsRow B t sz (.slice (some ⟨g, 0, none⟩) n cap) n xs) : n ≤ cap ∧ cap ≤ maxLen ∧ B ≤ g := by
  rcases h.2 with ⟨h1, -⟩ | ⟨g', cap', cur, e, hb, hh, h1, h2, h3, h4⟩
  · cases h1
  · injection e with e _ e3; injection e with e; injection e with e e2
    subst e e3; exact ⟨h1, h2, hb⟩
theorem own_ptr {W : World} {B t sz n cap : Nat} {a : Option Addr} {xs : List Value} (h : W.ownsRow B t sz (.slice a n cap) n xs) (hn : 0 < n) : ∃ g, a = some ⟨g, 0, none⟩ := by
  rcases h.2 with ⟨-, h2⟩ | ⟨g, cap', cur, e, -⟩
  · omega
  · injection e with e; exact ⟨g, e⟩
section
variable {P : Program} {ops : Array Oper} {Q : Exit → Act → World → Prop} {n q j : Nat} {L : Kn} {o : Oper} {l : List Oper} {W : World} {cs : List Value}
theorem own_sets {B e sz m cap : Nat} : ∀ (cs : List Value) (j : Nat) (W : World) (xs : List Value), W.ownsRow B e sz (.slice (some ⟨q, 0, none⟩) m cap) m xs → ∃ xs', (W.setCells q j cs).ownsRow B e sz (.slice (some ⟨q, 0, none⟩) m cap) m xs'
  | [], _, _, xs, h => ⟨xs, h⟩
  | c :: cs, j, _, _, h => own_sets cs (j + 1) _ _ (h.stored j c).1
theorem fw_sx {T : List TE} [hTk : TOk P T] {B e sz m cap : Nat} {xs : List Value} (r : W.ownsRow B e sz (.slice (some ⟨q, 0, none⟩) m cap) m xs) (hs : storeC T ops L o = some (q, j, cs)) (hj : j + cs.length ≤ xs.length) (h1 : cs.all (·.oneCell') = true)
    (k : ∀ W', W.grownBy W' (some q) → (∃ xs', W'.ownsRow B e sz (.slice (some ⟨q, 0, none⟩) m cap) m xs') → Fr n L (WL P ops Q l) W') : Fr n L (WL P ops Q (o :: l)) W :=
  ⟨fun a h => by
    obtain ⟨h4, h2, h3⟩ := storeC_run hTk.ok h hs (own_rowD r) (by unfold stB; rw [Bool.and_eq_true]; exact ⟨Nat.ble_eq_true_of_le hj, h1⟩)
    exact owl_skip (wantL_sound h h3) _ h2 h4 ((k _ (gr_sets q cs j W) (own_sets cs j W _ r)).out _ h)⟩
end
theorem own_apart2 {w : World} {B e s n B' e' s' n' : Nat} {v v' : Value} {xs xs' : List Value} (h : w.ownsRow B e s v n xs) (h' : w.ownsRow B' e' s' v' n' xs') (he : e ≠ e') : ∀ k, v.ownBlock = some k → some k ≠ v'.ownBlock := by
  intro k hk hk'
  obtain ⟨-, ⟨rfl, -⟩ | ⟨g, cap, cur, rfl, -, hh, -⟩⟩ := h
  · cases hk
  · obtain ⟨-, ⟨rfl, -⟩ | ⟨g', cap', cur', rfl, -, hh', -⟩⟩ := h'
    · cases hk'
    · have e1 : g = k := Option.some.inj hk
      have e2 : k = g' := Option.some.inj hk'
      subst e1 e2
      rw [hh] at hh'
      injection hh' with hh'
      injection hh' with _ h3
      exact he h3
theorem grb_ {w X Y : World} {r : Option Nat} (h : w.grownBy X r) (hb : Below X.heap.size X Y) : w.grownBy Y r := ⟨hb.os.trans h.os, hb.tape.trans h.tape, hb.output.trans h.output, Nat.le_trans h.size hb.size, fun k hk hn => (hb.block k (Nat.lt_of_lt_of_le hk h.size)).trans (h.block k hk hn)⟩
theorem scrAppC {o : Oper} {x : Act} {W : World} {B n c q : Nat} {a : Option Addr} {xs news : List Value} (s t : Operand) (ho : o.op = .call { callee := .builtin .append, args := #[s, t], argTypes := #[26, 26] }) (hs : x.eval s = .slice a n c) (hown : W.ownsRow B 3 1 (.slice a n c) n xs) (hx : x.eval t = .slice (some ⟨q, 0, none⟩) 1 1) (hr : RowAt W q news) (hl : news.length = 1 * 1) (h1 : ∀ u ∈ news, u.oneCell' = true) (hn : n ≤ 100000) (hB : B ≤ W.heap.size) :
    opTo Tryd.prog o x W fun v' w' => ∃ a' n' c', v' = .slice a' n' c' ∧ W.grownBy w' (Value.slice a n c).ownBlock := by
  obtain ⟨i0, hi, hz0, hz1, hz2⟩ := info_parts infoI64
  refine opTo_up (opTo_app s t 26 3 ho B i0 _ 1 8 Tryd.underlying26 hi hz0 hz1 hz2 rfl (by decide) _ n _ hs hown ⟨q, 0, none⟩ 1 1 news hx hl (fun j u' hj => by rw [add_off0, Nat.zero_add]; exact hr.1 j u' hj) h1 (by unfold maxLen; omega) (by omega) hB) ?_
  rintro v' w' ⟨h1, h2⟩
  obtain ⟨a', c', rfl⟩ := own_slice h2
  exact ⟨a', _, c', rfl, h1.1⟩
theorem scrAppW {o : Oper} {x : Act} {W : World} {B n c q : Nat} {a : Option Addr} {xs news : List Value} (s t : Operand) (ho : o.op = .call { callee := .builtin .append, args := #[s, t], argTypes := #[27, 27] }) (hs : x.eval s = .slice a n c) (hown : W.ownsRow B 93 2 (.slice a n c) n xs) (hx : x.eval t = .slice (some ⟨q, 0, none⟩) 1 1) (hr : RowAt W q news) (hl : news.length = 1 * 2) (h1 : ∀ u ∈ news, u.oneCell' = true) (hn : n ≤ 100000) (hB : B ≤ W.heap.size) :
    opTo Tryd.prog o x W fun v' w' => ∃ a' n' c', v' = .slice a' n' c' ∧ W.grownBy w' (Value.slice a n c).ownBlock := by
  obtain ⟨i0, hi, hz0, hz1, hz2⟩ := info_parts infoWish
  refine opTo_up (opTo_app s t 27 93 ho B i0 _ 2 24 Tryd.underlying27 hi hz0 hz1 hz2 rfl (by decide) _ n _ hs hown ⟨q, 0, none⟩ 1 1 news hx hl (fun j u' hj => by rw [add_off0, Nat.zero_add]; exact hr.1 j u' hj) h1 (by unfold maxLen; omega) (by omega) hB) ?_
  rintro v' w' ⟨h1, h2⟩
  obtain ⟨a', c', rfl⟩ := own_slice h2
  exact ⟨a', _, c', rfl, h1.1⟩
theorem scrAppF {o : Oper} {x : Act} {W : World} {B n c q : Nat} {a : Option Addr} {xs news : List Value} (s t : Operand) (ho : o.op = .call { callee := .builtin .append, args := #[s, t], argTypes := #[28, 28] }) (hs : x.eval s = .slice a n c) (hown : W.ownsRow B 9 1 (.slice a n c) n xs) (hx : x.eval t = .slice (some ⟨q, 0, none⟩) 1 1) (hr : RowAt W q news) (hl : news.length = 1 * 1) (h1 : ∀ u ∈ news, u.oneCell' = true) (hn : n ≤ 100000) (hB : B ≤ W.heap.size) :
    opTo Tryd.prog o x W fun v' w' => ∃ a' n' c', v' = .slice a' n' c' ∧ W.grownBy w' (Value.slice a n c).ownBlock := by
  obtain ⟨i0, hi, hz0, hz1, hz2⟩ := info_parts infoStr
  refine opTo_up (opTo_app s t 28 9 ho B i0 _ 1 16 Tryd.underlying28 hi hz0 hz1 hz2 rfl (by decide) _ n _ hs hown ⟨q, 0, none⟩ 1 1 news hx hl (fun j u' hj => by rw [add_off0, Nat.zero_add]; exact hr.1 j u' hj) h1 (by unfold maxLen; omega) (by omega) hB) ?_
  rintro v' w' ⟨h1, h2⟩
  obtain ⟨a', c', rfl⟩ := own_slice h2
  exact ⟨a', _, c', rfl, h1.1⟩
theorem idxMqs (b n cap i : Nat) (hi : i < n) (w : World) : (Instr.indexAt 44 (.slice (some ⟨b, 0, none⟩) n cap) (.int .i64 (i : Int))).run Tryd.prog w = .ok (.pointer (some ⟨b, i * 24, none⟩)) w := by
  have h2 : ¬ n ≤ i := by omega
  simp [go_sem, Instr.indexAt, h2]
theorem idxW0 (b n cap i : Nat) (hi : i < n) (w : World) : (Instr.indexAt 27 (.slice (some ⟨b, 0, none⟩) n cap) (.int .i64 (i : Int))).run Tryd.prog w = .ok (.pointer (some ⟨b, i * 2, none⟩)) w := by
  have h := idxWs b 0 n cap i hi w; rwa [Nat.zero_add] at h
theorem idxC0 (b n cap i : Nat) (hi : i < n) (w : World) : (Instr.indexAt 26 (.slice (some ⟨b, 0, none⟩) n cap) (.int .i64 (i : Int))).run Tryd.prog w = .ok (.pointer (some ⟨b, i, none⟩)) w := by
  have h := idxIs b 0 n cap i hi w; rwa [Nat.zero_add, Nat.mul_one] at h
theorem idxF0 (b n cap i : Nat) (hi : i < n) (w : World) : (Instr.indexAt 28 (.slice (some ⟨b, 0, none⟩) n cap) (.int .i64 (i : Int))).run Tryd.prog w = .ok (.pointer (some ⟨b, i, none⟩)) w := by
  have h := idxSs b 0 n cap i hi w; rwa [Nat.zero_add, Nat.mul_one] at h
set_option maxRecDepth 100000 in
set_option maxHeartbeats 4000000 in
theorem scrC {W0 w : World} {n c : Nat} {a : Option Addr} {xs : List Value} (h0 : Below W0.heap.size W0 w) (hn : n ≤ 100000) (ho : w.ownsRow W0.heap.size 3 1 (.slice a n c) n xs) :
    Calls Tryd.prog 44 #[.slice a n c] w fun e w' => e = .returned (.tuple #[]) ∧ w.grownBy w' (Value.slice a n c).ownBlock := by
  have hb0 := Below.refl W0.heap.size w
  have hBw := h0.size
  have hgw := gr_refl w (Value.slice a n c).ownBlock
  have hox : ∃ xs, w.ownsRow W0.heap.size 3 1 (.slice a n c) n xs := ⟨_, ho⟩
  refine fw_en 15 [(0, .slice a n c)] Tryd.func44 rfl Tryd.ntmps44 rfl ⟨rfl, trivial⟩ ?_
  refine fw_sq (fw_sq (fw_rg rfl (fw_pu rfl (fw_dt (fw_bk ?_)))))
  refine fw_lp (fun N K W => ∃ (i : Nat), N = n - i ∧ i ≤ n ∧ K = [(0, .slice a n c), (2, .int .i64 ((i : Nat) : Int))] ∧ Below W0.heap.size w W ∧ w.grownBy W (Value.slice a n c).ownBlock ∧ ∃ xs, W.ownsRow W0.heap.size 3 1 (.slice a n c) n xs) _ _ ⟨0, rfl, Nat.zero_le _, rfl, hb0, hgw, hox⟩ ⟨rfl, (by first | rfl | (simp only [Look, cond, Nat.beq]; first | rfl | (congr 2; first | rfl | omega | (push_cast; omega)) | (simp; try omega))), trivial⟩ ?_
  rintro N _ W1 ⟨i, rfl, hin0, rfl, bW1, fW1_0, fW1_1⟩
  intro K3 hK3
  refine fw_sq (fw_sq (fw_rg rfl ?_))
  iterate 4 refine fw_pu rfl ?_
  refine fw_dt ?_
  rcases Bool.eq_false_or_eq_true ((decide (((i : Nat) : Int) < ((n : Nat) : Int)))) with hb_4 | hb_4
  · skip
    refine fw_cT rfl hb_4 (fw_sk (fw_th (fw_sq (fw_bk ?_))))
    have hin : i < n := by have h := of_decide_eq_true hb_4; omega
    obtain ⟨xs1, ho1⟩ := fW1_1
    obtain ⟨g1, hg1⟩ := own_ptr ho1 (by omega)
    subst hg1
    have hx1 : xs1.length = n * 1 := ho1.1
    refine fw_rg rfl ?_
    iterate 2 refine fw_pu rfl ?_
    refine fw_ex 11 (.pointer (some ⟨g1, i, none⟩)) rfl rfl rfl (fun a h => (run_indexOp (h.ev rfl) (h.ev rfl) (idxC0 _ _ _ _ hin _))) ?_
    refine fw_sx ho1 rfl (show i + 1 ≤ xs1.length by omega) rfl ?_
    rintro W5 sS ⟨xs2, ho2⟩
    have f6 := gr_trans fW1_0 sS
    have b7 := below_grown bW1 sS (fun k hk => by obtain rfl := Option.some.inj hk; exact (own_caps ho1).2.2) (Nat.le_trans hBw bW1.size)
    refine fw_dn (fw_bn (fw_th (fw_rg rfl (fw_pu rfl ?_))))
    refine fw_ex 8 (.int .i64 (((i + 1) : Nat) : Int)) rfl rfl rfl (fun a h => (run_binOp (h.ev rfl) (h.ev rfl) (by simp [go_sem]) (addIw _ _ _ _ (by omega) (by omega) (by omega)))) ?_
    refine fw_pu rfl (fw_dn ?_)
    exact fw_th (fw_gf (hK3 _ _ _ (by omega) ⟨(i + 1), rfl, (by omega), rfl, b7, f6, ⟨_, ho2⟩⟩) ⟨(by first | rfl | (simp only [Look, cond, Nat.beq]; first | rfl | (congr 2; first | rfl | omega | (push_cast; omega)) | (simp; try omega))), (by first | rfl | (simp only [Look, cond, Nat.beq]; first | rfl | (congr 2; first | rfl | omega | (push_cast; omega)) | (simp; try omega))), trivial⟩)
  refine fw_cF rfl hb_4 (fw_xt (fw_te (fw_te (fw_be (fw_th (fw_rg rfl (fw_pu rfl ?_)))))))
  refine fw_al (t := 3) (u := fun q => .slice (some ⟨q, 0, none⟩) 1 1) 13 [.int .i64 5] rfl rfl rfl (fun a h => (run_buildInt1 (h.ev rfl))) ?_
  intro q8 W9 g12 s10 r11
  have := Nat.le_trans (Nat.le_trans hBw bW1.size) g12
  have b13 := bW1.trans (s10.mono (Nat.le_trans hBw bW1.size))
  have f14 := (grb_ fW1_0 s10)
  have f15 := (fW1_1.imp fun _ h => below_own h s10)
  obtain ⟨xs9, ho9⟩ := f15
  refine fw_to 14 rfl rfl rfl (fun a h => scrAppC _ _ rfl (h.ev rfl) ho9 (h.ev rfl) r11 rfl (by intro u hu; simp at hu; first | (rcases hu with rfl | rfl <;> rfl) | (subst hu; rfl)) (by omega) (Nat.le_trans hBw b13.size)) ?_
  rintro _ V16 ⟨a9, n9, c9, rfl, hg9⟩
  have f17 := gr_trans f14 hg9
  have b18 := below_grown b13 hg9 (fun k hk => (blk_lt ho9 hk).1) (Nat.le_trans hBw b13.size)
  refine fw_pu rfl (fw_dn ?_)
  refine ⟨fun a h => ?_⟩
  exact bodyPost_end (v := .tuple #[]) (by simp [results, Tryd.results44]) h.df ⟨rfl, f17⟩
set_option maxRecDepth 100000 in
set_option maxHeartbeats 4000000 in
theorem scrW {W0 w : World} {n c : Nat} {a : Option Addr} {xs : List Value} (h0 : Below W0.heap.size W0 w) (hn : n ≤ 100000) (ho : w.ownsRow W0.heap.size 93 2 (.slice a n c) n xs) :
    Calls Tryd.prog 45 #[.slice a n c] w fun e w' => e = .returned (.tuple #[]) ∧ w.grownBy w' (Value.slice a n c).ownBlock := by
  have hb0 := Below.refl W0.heap.size w
  have hBw := h0.size
  have hgw := gr_refl w (Value.slice a n c).ownBlock
  have hox : ∃ xs, w.ownsRow W0.heap.size 93 2 (.slice a n c) n xs := ⟨_, ho⟩
  refine fw_en 17 [(0, .slice a n c)] Tryd.func45 rfl Tryd.ntmps45 rfl ⟨rfl, trivial⟩ ?_
  refine fw_sq (fw_sq (fw_rg rfl (fw_pu rfl (fw_dt (fw_bk ?_)))))
  refine fw_lp (fun N K W => ∃ (i : Nat), N = n - i ∧ i ≤ n ∧ K = [(0, .slice a n c), (2, .int .i64 ((i : Nat) : Int))] ∧ Below W0.heap.size w W ∧ w.grownBy W (Value.slice a n c).ownBlock ∧ ∃ xs, W.ownsRow W0.heap.size 93 2 (.slice a n c) n xs) _ _ ⟨0, rfl, Nat.zero_le _, rfl, hb0, hgw, hox⟩ ⟨rfl, (by first | rfl | (simp only [Look, cond, Nat.beq]; first | rfl | (congr 2; first | rfl | omega | (push_cast; omega)) | (simp; try omega))), trivial⟩ ?_
  rintro N _ W1 ⟨i, rfl, hin0, rfl, bW1, fW1_0, fW1_1⟩
  intro K3 hK3
  refine fw_sq (fw_sq (fw_rg rfl ?_))
  iterate 4 refine fw_pu rfl ?_
  refine fw_dt ?_
  rcases Bool.eq_false_or_eq_true ((decide (((i : Nat) : Int) < ((n : Nat) : Int)))) with hb_4 | hb_4
  · skip
    refine fw_cT rfl hb_4 (fw_sk (fw_th (fw_sq (fw_bk ?_))))
    have hin : i < n := by have h := of_decide_eq_true hb_4; omega
    obtain ⟨xs1, ho1⟩ := fW1_1
    obtain ⟨g1, hg1⟩ := own_ptr ho1 (by omega)
    subst hg1
    have hx1 : xs1.length = n * 2 := ho1.1
    refine fw_rg rfl ?_
    iterate 2 refine fw_pu rfl ?_
    refine fw_ex 11 (.agg #[.string { data := #[63] }, .int .i64 0]) rfl rfl rfl (fun a h => (run_buildOp (vs := #[(0, .string { data := #[63] })]) (by simp; rfl) (by kernel_rfl))) ?_
    refine fw_ex 12 (.pointer (some ⟨g1, (i * 2), none⟩)) rfl rfl rfl (fun a h => (run_indexOp (h.ev rfl) (h.ev rfl) (idxW0 _ _ _ _ hin _))) ?_
    refine fw_sx ho1 rfl (show (i * 2) + 2 ≤ xs1.length by omega) rfl ?_
    rintro W5 sS ⟨xs2, ho2⟩
    have f6 := gr_trans fW1_0 sS
    have b7 := below_grown bW1 sS (fun k hk => by obtain rfl := Option.some.inj hk; exact (own_caps ho1).2.2) (Nat.le_trans hBw bW1.size)
    refine fw_dn (fw_bn (fw_th (fw_rg rfl (fw_pu rfl ?_))))
    refine fw_ex 8 (.int .i64 (((i + 1) : Nat) : Int)) rfl rfl rfl (fun a h => (run_binOp (h.ev rfl) (h.ev rfl) (by simp [go_sem]) (addIw _ _ _ _ (by omega) (by omega) (by omega)))) ?_
    refine fw_pu rfl (fw_dn ?_)
    exact fw_th (fw_gf (hK3 _ _ _ (by omega) ⟨(i + 1), rfl, (by omega), rfl, b7, f6, ⟨_, ho2⟩⟩) ⟨(by first | rfl | (simp only [Look, cond, Nat.beq]; first | rfl | (congr 2; first | rfl | omega | (push_cast; omega)) | (simp; try omega))), (by first | rfl | (simp only [Look, cond, Nat.beq]; first | rfl | (congr 2; first | rfl | omega | (push_cast; omega)) | (simp; try omega))), trivial⟩)
  refine fw_cF rfl hb_4 (fw_xt (fw_te (fw_te (fw_be (fw_th (fw_rg rfl (fw_pu rfl ?_)))))))
  refine fw_ex 14 (.agg #[.string { data := #[] }, .int .i64 0]) rfl rfl rfl (fun a h => (run_buildOp (vs := #[]) (by simp) (by kernel_rfl))) ?_
  refine fw_al (t := 93) (u := fun q => .slice (some ⟨q, 0, none⟩) 1 1) 15 [.string { data := #[] }, .int .i64 0] rfl rfl rfl (fun a h => (run_buildWish1 (h.ev rfl))) ?_
  intro q8 W9 g12 s10 r11
  have := Nat.le_trans (Nat.le_trans hBw bW1.size) g12
  have b13 := bW1.trans (s10.mono (Nat.le_trans hBw bW1.size))
  have f14 := (grb_ fW1_0 s10)
  have f15 := (fW1_1.imp fun _ h => below_own h s10)
  obtain ⟨xs9, ho9⟩ := f15
  refine fw_to 16 rfl rfl rfl (fun a h => scrAppW _ _ rfl (h.ev rfl) ho9 (h.ev rfl) r11 rfl (by intro u hu; simp at hu; first | (rcases hu with rfl | rfl <;> rfl) | (subst hu; rfl)) (by omega) (Nat.le_trans hBw b13.size)) ?_
  rintro _ V16 ⟨a9, n9, c9, rfl, hg9⟩
  have f17 := gr_trans f14 hg9
  have b18 := below_grown b13 hg9 (fun k hk => (blk_lt ho9 hk).1) (Nat.le_trans hBw b13.size)
  refine fw_pu rfl (fw_dn ?_)
  refine ⟨fun a h => ?_⟩
  exact bodyPost_end (v := .tuple #[]) (by simp [results, Tryd.results45]) h.df ⟨rfl, f17⟩
set_option maxRecDepth 100000 in
set_option maxHeartbeats 4000000 in
theorem scrF {W0 w : World} {n c : Nat} {a : Option Addr} {xs : List Value} (h0 : Below W0.heap.size W0 w) (hn : n ≤ 100000) (ho : w.ownsRow W0.heap.size 9 1 (.slice a n c) n xs) :
    Calls Tryd.prog 46 #[.slice a n c] w fun e w' => e = .returned (.tuple #[]) ∧ w.grownBy w' (Value.slice a n c).ownBlock := by
  have hb0 := Below.refl W0.heap.size w
  have hBw := h0.size
  have hgw := gr_refl w (Value.slice a n c).ownBlock
  have hox : ∃ xs, w.ownsRow W0.heap.size 9 1 (.slice a n c) n xs := ⟨_, ho⟩
  refine fw_en 15 [(0, .slice a n c)] Tryd.func46 rfl Tryd.ntmps46 rfl ⟨rfl, trivial⟩ ?_
  refine fw_sq (fw_sq (fw_rg rfl (fw_pu rfl (fw_dt (fw_bk ?_)))))
  refine fw_lp (fun N K W => ∃ (i : Nat), N = n - i ∧ i ≤ n ∧ K = [(0, .slice a n c), (2, .int .i64 ((i : Nat) : Int))] ∧ Below W0.heap.size w W ∧ w.grownBy W (Value.slice a n c).ownBlock ∧ ∃ xs, W.ownsRow W0.heap.size 9 1 (.slice a n c) n xs) _ _ ⟨0, rfl, Nat.zero_le _, rfl, hb0, hgw, hox⟩ ⟨rfl, (by first | rfl | (simp only [Look, cond, Nat.beq]; first | rfl | (congr 2; first | rfl | omega | (push_cast; omega)) | (simp; try omega))), trivial⟩ ?_
  rintro N _ W1 ⟨i, rfl, hin0, rfl, bW1, fW1_0, fW1_1⟩
  intro K3 hK3
  refine fw_sq (fw_sq (fw_rg rfl ?_))
  iterate 4 refine fw_pu rfl ?_
  refine fw_dt ?_
  rcases Bool.eq_false_or_eq_true ((decide (((i : Nat) : Int) < ((n : Nat) : Int)))) with hb_4 | hb_4
  · skip
    refine fw_cT rfl hb_4 (fw_sk (fw_th (fw_sq (fw_bk ?_))))
    have hin : i < n := by have h := of_decide_eq_true hb_4; omega
    obtain ⟨xs1, ho1⟩ := fW1_1
    obtain ⟨g1, hg1⟩ := own_ptr ho1 (by omega)
    subst hg1
    have hx1 : xs1.length = n * 1 := ho1.1
    refine fw_rg rfl ?_
    iterate 2 refine fw_pu rfl ?_
    refine fw_ex 11 (.pointer (some ⟨g1, i, none⟩)) rfl rfl rfl (fun a h => (run_indexOp (h.ev rfl) (h.ev rfl) (idxF0 _ _ _ _ hin _))) ?_
    refine fw_sx ho1 rfl (show i + 1 ≤ xs1.length by omega) rfl ?_
    rintro W5 sS ⟨xs2, ho2⟩
    have f6 := gr_trans fW1_0 sS
    have b7 := below_grown bW1 sS (fun k hk => by obtain rfl := Option.some.inj hk; exact (own_caps ho1).2.2) (Nat.le_trans hBw bW1.size)
    refine fw_dn (fw_bn (fw_th (fw_rg rfl (fw_pu rfl ?_))))
    refine fw_ex 8 (.int .i64 (((i + 1) : Nat) : Int)) rfl rfl rfl (fun a h => (run_binOp (h.ev rfl) (h.ev rfl) (by simp [go_sem]) (addIw _ _ _ _ (by omega) (by omega) (by omega)))) ?_
    refine fw_pu rfl (fw_dn ?_)
    exact fw_th (fw_gf (hK3 _ _ _ (by omega) ⟨(i + 1), rfl, (by omega), rfl, b7, f6, ⟨_, ho2⟩⟩) ⟨(by first | rfl | (simp only [Look, cond, Nat.beq]; first | rfl | (congr 2; first | rfl | omega | (push_cast; omega)) | (simp; try omega))), (by first | rfl | (simp only [Look, cond, Nat.beq]; first | rfl | (congr 2; first | rfl | omega | (push_cast; omega)) | (simp; try omega))), trivial⟩)
  refine fw_cF rfl hb_4 (fw_xt (fw_te (fw_te (fw_be (fw_th (fw_rg rfl (fw_pu rfl ?_)))))))
  refine fw_al (t := 9) (u := fun q => .slice (some ⟨q, 0, none⟩) 1 1) 13 [.string { data := #[63] }] rfl rfl rfl (fun a h => (run_buildStr1 (h.ev rfl))) ?_
  intro q8 W9 g12 s10 r11
  have := Nat.le_trans (Nat.le_trans hBw bW1.size) g12
  have b13 := bW1.trans (s10.mono (Nat.le_trans hBw bW1.size))
  have f14 := (grb_ fW1_0 s10)
  have f15 := (fW1_1.imp fun _ h => below_own h s10)
  obtain ⟨xs9, ho9⟩ := f15
  refine fw_to 14 rfl rfl rfl (fun a h => scrAppF _ _ rfl (h.ev rfl) ho9 (h.ev rfl) r11 rfl (by intro u hu; simp at hu; first | (rcases hu with rfl | rfl <;> rfl) | (subst hu; rfl)) (by omega) (Nat.le_trans hBw b13.size)) ?_
  rintro _ V16 ⟨a9, n9, c9, rfl, hg9⟩
  have f17 := gr_trans f14 hg9
  have b18 := below_grown b13 hg9 (fun k hk => (blk_lt ho9 hk).1) (Nat.le_trans hBw b13.size)
  refine fw_pu rfl (fw_dn ?_)
  refine ⟨fun a h => ?_⟩
  exact bodyPost_end (v := .tuple #[]) (by simp [results, Tryd.results46]) h.df ⟨rfl, f17⟩
set_option maxRecDepth 100000 in
set_option maxHeartbeats 4000000 in
theorem mqsX {W0 w : World} {q cc cw cf : Nat} {ac aw af : Option Addr} {m : Mq} (h0 : Below W0.heap.size W0 w) (hq : W0.heap.size ≤ q) (rr : RowAt w q (Mq.row m (.slice ac m.cs.length cc) (.slice aw m.ws.length cw) (.slice af m.fs.length cf))) (hO : OL3 w W0.heap.size ac cc aw cw af cf m) (hqN : O3N ac cc aw cw af cf m q) (hc : m.cs.length ≤ 100000 ∧ m.ws.length ≤ 100000 ∧ m.fs.length ≤ 100000) :
    Calls Tryd.prog 21 #[.slice (some ⟨q, 0, none⟩) 1 1] w fun e w' => e = .returned (.tuple #[]) ∧ Below W0.heap.size w w' := by
  have hb0 := Below.refl W0.heap.size w
  have hBw := h0.size
  refine fw_en 31 [(0, .slice (some ⟨q, 0, none⟩) 1 1)] Tryd.func21 rfl Tryd.ntmps21 rfl ⟨rfl, trivial⟩ ?_
  refine fw_sq (fw_rg rfl (fw_pu rfl (fw_dt (fw_bk ?_))))
  refine fw_lp (fun N K W => ∃ (i : Nat), N = 1 - i ∧ i ≤ 1 ∧ K = [(0, .slice (some ⟨q, 0, none⟩) 1 1), (2, .int .i64 ((i : Nat) : Int))] ∧ Below W0.heap.size w W ∧ (i = 0 → (RowAt W q (Mq.row m (.slice ac m.cs.length cc) (.slice aw m.ws.length cw) (.slice af m.fs.length cf)) ∧ OL3 W W0.heap.size ac cc aw cw af cf m))) _ _ ⟨0, rfl, Nat.zero_le _, rfl, hb0, (fun _ => ⟨rr, hO⟩)⟩ ⟨rfl, (by first | rfl | (simp only [Look, cond, Nat.beq]; first | rfl | (congr 2; first | rfl | omega | (push_cast; omega)) | (simp; try omega))), trivial⟩ ?_
  rintro N _ W1 ⟨i, rfl, hi1, rfl, bW1, gW1_0⟩
  intro K3 hK3
  refine fw_sq (fw_sq (fw_rg rfl ?_))
  iterate 4 refine fw_pu rfl ?_
  refine fw_dt ?_
  rcases Bool.eq_false_or_eq_true ((decide (((i : Nat) : Int) < 1))) with hb_4 | hb_4
  · skip
    refine fw_cT rfl hb_4 (fw_sk (fw_th (fw_sq (fw_bk (fw_sq ?_)))))
    have hi0 : i = 0 := by have h := of_decide_eq_true hb_4; omega
    obtain ⟨rq, hO1⟩ := gW1_0 hi0
    have hoC := hO1.c
    have hoW := hO1.w
    have hoF := hO1.f
    refine fw_rg rfl ?_
    iterate 2 refine fw_pu rfl ?_
    refine fw_ex 11 (.pointer (some ⟨q, 0, none⟩)) rfl rfl rfl (fun a h => (run_indexOp (h.ev rfl) (h.ev rfl) (by rw [hi0]; exact idxMqs _ _ _ 0 (by decide) _))) ?_
    refine fw_pu rfl (fw_ld rq rfl rfl ?_)
    refine fw_ca Tryd.func44 rfl rfl rfl ((scrC (h0.trans bW1) (by omega) hoC)) ?_
    rintro _ V6 ⟨rfl, hg5⟩
    refine ⟨_, rfl, ?_⟩
    have r7 := rowAt_keep rq hg5 (fun e => hqN.1 q e.symm rfl)
    have f8 := own_stay hoW hg5 (own_apart2 hoW hoC (by decide))
    have f9 := own_stay hoF hg5 (own_apart2 hoF hoC (by decide))
    have b10 := below_grown bW1 hg5 (fun k hk => (blk_lt hoC hk).1) (Nat.le_trans hBw bW1.size)
    refine fw_dt (fw_sq (fw_rg rfl ?_))
    iterate 2 refine fw_pu rfl ?_
    refine fw_ex 17 (.pointer (some ⟨q, 0, none⟩)) rfl rfl rfl (fun a h => (run_indexOp (h.ev rfl) (h.ev rfl) (by rw [hi0]; exact idxMqs _ _ _ 0 (by decide) _))) ?_
    refine fw_pu rfl (fw_ld r7 rfl rfl ?_)
    refine fw_ca Tryd.func45 rfl rfl rfl ((scrW (h0.trans b10) (by omega) f8)) ?_
    rintro _ V12 ⟨rfl, hg11⟩
    refine ⟨_, rfl, ?_⟩
    have r13 := rowAt_keep r7 hg11 (fun e => hqN.2.1 q e.symm rfl)
    have f14 := own_stay f9 hg11 (own_apart2 f9 f8 (by decide))
    have b15 := below_grown b10 hg11 (fun k hk => (blk_lt f8 hk).1) (Nat.le_trans hBw b10.size)
    refine fw_dt (fw_sq (fw_rg rfl ?_))
    iterate 2 refine fw_pu rfl ?_
    refine fw_ex 23 (.pointer (some ⟨q, 0, none⟩)) rfl rfl rfl (fun a h => (run_indexOp (h.ev rfl) (h.ev rfl) (by rw [hi0]; exact idxMqs _ _ _ 0 (by decide) _))) ?_
    refine fw_pu rfl (fw_ld r13 rfl rfl ?_)
    refine fw_ca Tryd.func46 rfl rfl rfl ((scrF (h0.trans b15) (by omega) f14)) ?_
    rintro _ V17 ⟨rfl, hg16⟩
    refine ⟨_, rfl, ?_⟩
    have r18 := rowAt_keep r13 hg16 (fun e => hqN.2.2 q e.symm rfl)
    have b19 := below_grown b15 hg16 (fun k hk => (blk_lt f14 hk).1) (Nat.le_trans hBw b15.size)
    refine fw_dt (fw_rg rfl ?_)
    iterate 2 refine fw_pu rfl ?_
    refine fw_ex 29 (.agg #[.int .i64 (-9), .string { data := #[] }, .bool false, .int .i64 0, .bool false, .string { data := #[] }, .string { data := #[] }, .int .i64 0, .bool false, .string { data := #[] }, .bool false, .string { data := #[] }, .bool false, .bool false, .int .i64 0, .slice none 0 0, .bool false, .int .i64 0, .bool false, .string { data := #[] }, .int .i64 0, .string { data := #[] }, .slice none 0 0, .slice none 0 0]) rfl rfl rfl (fun a h => (run_buildOp (vs := #[(0, .int .i64 (-9))]) (by simp; rfl) (by kernel_rfl))) ?_
    refine fw_ex 30 (.pointer (some ⟨q, 0, none⟩)) rfl rfl rfl (fun a h => (run_indexOp (h.ev rfl) (h.ev rfl) (by rw [hi0]; exact idxMqs _ _ _ 0 (by decide) _))) ?_
    refine fw_st r18 rfl rfl ?_
    intro W20 s21 r22
    have b23 := below_chg b19 s21 (by omega) (Nat.le_trans hBw b19.size)
    refine fw_dn (fw_bn (fw_th (fw_rg rfl (fw_pu rfl ?_))))
    refine fw_ex 8 (.int .i64 (((i + 1) : Nat) : Int)) rfl rfl rfl (fun a h => (run_binOp (h.ev rfl) (h.ev rfl) (by simp [go_sem]) (addIw _ _ _ _ (by omega) (by omega) (by omega)))) ?_
    refine fw_pu rfl (fw_dn ?_)
    exact fw_th (fw_gf (hK3 _ _ _ (by omega) ⟨(i + 1), rfl, (by omega), rfl, b23, (fun e => absurd e (by omega))⟩) ⟨rfl, (by first | rfl | (simp only [Look, cond, Nat.beq]; first | rfl | (congr 2; first | rfl | omega | (push_cast; omega)) | (simp; try omega))), trivial⟩)
  refine fw_cF rfl hb_4 (fw_xt (fw_te (fw_te (fw_be ?_))))
  refine ⟨fun a h => ?_⟩
  exact bodyPost_end (v := .tuple #[]) (by simp [results, Tryd.results21]) h.df ⟨rfl, bW1⟩
theorem run_buildMq1 {ρ : Operand → Value} {d : Option Tmp} {ty : TypeId} {pos : String} {af : Array Edge} {g : Option (Nat × Bool)} {x : Operand} {w : World} {x0 x1 x2 x3 x4 x5 x6 x7 x8 x9 x10 x11 x12 x13 x14 x15 x16 x17 x18 x19 x20 x21 x22 x23 : Value} (hx : ρ x = .agg #[x0, x1, x2, x3, x4, x5, x6, x7, x8, x9, x10, x11, x12, x13, x14, x15, x16, x17, x18, x19, x20, x21, x22, x23]) : (execOp ρ ⟨d, .buildSlice 44 1 #[(0, x)], ty, pos, af, g⟩).run Tryd.prog w = .ok (.value (.slice (some ⟨w.heap.size, 0, none⟩) 1 1)) (w.alloc (.cells #[x0, x1, x2, x3, x4, x5, x6, x7, x8, x9, x10, x11, x12, x13, x14, x15, x16, x17, x18, x19, x20, x21, x22, x23] 30)) := by
  simp [execOp, hx, go_sem, Instr.buildSlice]
theorem pa_few {l : List UInt8} {d : Mq} {n : Nat} {e : Int} (h : paG l = (d, n, e)) : d.cs.length ≤ 1000 ∧ d.ws.length ≤ 1000 ∧ d.fs.length ≤ 1000 := by
  by_cases he : e = 0
  · subst he
    have s := may_small (pa_ok h).1
    exact ⟨Nat.le_trans s.cs (by decide), Nat.le_trans s.ws (by decide), Nat.le_trans s.fs (by decide)⟩
  · have h2 := pa_no (l := l) (by rw [h]; exact he)
    rw [h] at h2
    have h3 : d = zM 0 := congrArg (·.1) h2
    subst h3
    exact ⟨Nat.zero_le _, Nat.zero_le _, Nat.zero_le _⟩
set_option maxRecDepth 100000 in
set_option maxHeartbeats 4000000 in
theorem packParses_any (aS : Option Addr) (nS cS : Nat) (L : List (Mq × List UInt8)) (w : World) (hS : SlOf w 25 Ask18.At (.slice aS nS cS) L) (hLl : L.length ≤ far) (hT : Tabs w) :
    Calls Tryd.prog 3 #[.slice aS nS cS] w fun e w' => e = .returned (.bool true) ∧ Below w.heap.size w w' := by
  have hLl0 : L.length ≤ 140737488351232 := hLl
  obtain rfl : nS = L.length := ask_len hS
  have hb0 := Below.refl w.heap.size w
  refine fw_en 77 [(0, .slice aS L.length cS)] Tryd.func3 rfl Tryd.ntmps3 rfl ⟨rfl, trivial⟩ ?_
  refine fw_sq (fw_rg rfl (fw_pu rfl (fw_dt (fw_sq (fw_sq (fw_rg rfl (fw_pu rfl (fw_dt (fw_bk ?_)))))))))
  refine fw_lp (fun N K W => ∃ (i : Nat), N = L.length - i ∧ i ≤ L.length ∧ K = [(0, .slice aS L.length cS), (3, .int .i64 ((i : Nat) : Int))] ∧ Below w.heap.size w W) _ _ ⟨0, rfl, Nat.zero_le _, rfl, hb0⟩ ⟨rfl, (by first | rfl | (simp only [Look, cond, Nat.beq]; first | rfl | (congr 2; first | rfl | omega | (push_cast; omega)) | (simp; try omega))), trivial⟩ ?_
  rintro N _ W1 ⟨i, rfl, hil, rfl, bW1⟩
  intro K3 hK3
  refine fw_sq (fw_sq (fw_rg rfl ?_))
  iterate 5 refine fw_pu rfl ?_
  rcases Bool.eq_false_or_eq_true ((decide (((i : Nat) : Int) < ((L.length : Nat) : Int)))) with hb_4 | hb_4
  · skip
    refine fw_kn 15 rfl hb_4 ?_
    iterate 3 refine fw_pu rfl ?_
    refine fw_dt ?_
    rcases Bool.eq_false_or_eq_true ((decide (((i : Nat) : Int) < 10))) with hb_5 | hb_5
    · skip
      refine fw_cT rfl hb_5 (fw_sk (fw_th (fw_sq (fw_bk (fw_sq (fw_sq ?_))))))
      have hiL : i < L.length := by have h := of_decide_eq_true hb_4; omega
      obtain ⟨⟨m, xs⟩, hmx⟩ : ∃ p, L[i]? = some p := ⟨_, List.getElem?_eq_getElem hiL⟩
      obtain ⟨bP, oP, haP, hbP, hAt⟩ := ask_at hS hmx
      obtain ⟨vc, vw, vf, vx, hcP, hL, hX, hF, hxf⟩ := hAt
      dsimp only at hcP hL hX hF hxf
      obtain ⟨ac, nc, cc, aw, nw, cw, af, nf, cf, rfl, rfl, rfl⟩ := lists_open hL
      obtain ⟨ax, nx, cx, rfl⟩ : ∃ ax nx cx, vx = .slice ax nx cx := by obtain ⟨p, q, e, -⟩ := hX; exact ⟨_, _, _, e⟩
      have hcx := sl_cap hX
      obtain rfl : nc = m.cs.length := by have := slR_len hL.c; simpa using this
      obtain rfl : nw = m.ws.length := by have := slR_len hL.w; simpa using this
      obtain rfl : nf = m.fs.length := by have := slR_len hL.f; simpa using this
      obtain rfl : nx = xs.length := hcx.1
      refine fw_rg rfl ?_
      iterate 2 refine fw_pu rfl ?_
      refine fw_ex 23 (.pointer (some ⟨bP, (oP + i * 25), none⟩)) rfl rfl rfl (fun a h => (run_indexOp (h.ev rfl) (h.ev rfl) (by rw [haP]; exact idxAsk _ _ _ _ _ (by have := ask_len hS; omega) _))) ?_
      refine fw_ex 24 (.agg (Mq.row m (.slice ac m.cs.length cc) (.slice aw m.ws.length cw) (.slice af m.fs.length cf) ++ [(.slice ax xs.length cx : Value)]).toArray) rfl rfl rfl (fun a h => (run_loadOp (h.ev rfl) (run_loadAt_mid _ bP _ _ [.int .i64 m.k, .string m.cl, .bool m.clean, .int .i64 m.keep, .bool m.wI, .string m.wT, .string m.wP, .int .i64 m.wQ, .bool m.wR, .string m.us, .bool m.hu, .string m.pa, .bool m.hp, .bool m.pres, .int .i64 m.code, .slice ac m.cs.length cc, .bool m.dup, .int .i64 m.q, .bool m.re, .string m.top, .int .i64 m.id, .string m.pay, .slice aw m.ws.length cw, .slice af m.fs.length cf, .slice ax xs.length cx] _ (fun j u hj => (Below.cell bW1 (p := ⟨bP, oP + i * 25 + j, none⟩) hbP).trans (hcP j u hj)) Tryd.underlying33 rfl (by kernel_rfl)))) ?_
      refine fw_ca Tryd.func14 rfl rfl rfl ((heavy_any m ac aw af ax _ _ _ _ cc cw cf cx W1 hF (hL.below bW1))) ?_
      rintro _ V7 ⟨bH, rfl, hbH, hnear⟩
      refine ⟨(.bool bH), rfl, ?_⟩
      have b8 := bW1.trans (hbH.mono bW1.size)
      refine fw_dt ?_
      rcases Bool.eq_false_or_eq_true (bH) with hb_9 | hb_9
      · skip
        refine fw_cT rfl hb_9 (fw_sq (fw_rg rfl (fw_pu rfl (fw_dt (fw_rt (fw_tr (fw_br ?_)))))))
        iterate 2 refine fw_tr ?_
        refine fw_br (fw_tr ?_)
        refine ⟨fun a h => ?_⟩
        exact ow_ret1 rfl h.df (h.g 2 rfl) ⟨rfl, b8⟩
      refine fw_cF rfl hb_9 (fw_sk (fw_th (fw_sq ?_)))
      obtain ⟨hN3, hx3⟩ := hnear hb_9
      refine fw_rg rfl ?_
      iterate 2 refine fw_pu rfl ?_
      refine fw_ex 28 (.pointer (some ⟨bP, (oP + i * 25), none⟩)) rfl rfl rfl (fun a h => (run_indexOp (h.ev rfl) (h.ev rfl) (by rw [haP]; exact idxAsk _ _ _ _ _ (by have := ask_len hS; omega) _))) ?_
      refine fw_pu rfl ?_
      refine fw_ex 30 (.slice ax xs.length cx) rfl rfl rfl (fun a h => (run_loadOp (h.ev rfl) (ldSl ((Below.cell b8 (p := ⟨bP, oP + i * 25 + 24, none⟩) hbP).trans (hcP 24 _ rfl))))) ?_
      refine fw_ca Tryd.func15 rfl rfl rfl ((copyBytes_any _ xs V7 (by omega) (hX.below b8))) ?_
      rintro _ V10 ⟨vI, rfl, hbI, hoI⟩
      refine ⟨_, rfl, ?_⟩
      obtain ⟨aI, cI, rfl⟩ := own_slice hoI
      have b11 := b8.trans (hbI.mono b8.size)
      refine fw_pu rfl (fw_dt (fw_sq ?_))
      obtain ⟨pm, pn, pe, hP⟩ : ∃ x y z, paG xs = (x, y, z) := ⟨_, _, _, rfl⟩
      obtain ⟨hpc, hpw, hpf⟩ := pa_few hP
      have hV12 := Below.refl V10.heap.size V10
      refine fw_rg rfl (fw_pu rfl ?_)
      refine fw_ca Tryd.func16 rfl rfl rfl ((by have h := (parseN (n := xs.length) (ad := aI) (cd := cI) (l := xs) (p := (pm, pn, pe)) rfl hP (Sl.of_own hoI).1 (by omega) (hT.below b11)); dsimp only at h; exact h)) ?_
      rintro _ V13 ⟨acp, ccp, awp, cwp, afp, cfp, rfl, hOp, hbp⟩
      refine ⟨_, rfl, ?_⟩
      have b14 := b11.trans (hbp.mono b11.size)
      have f15 := (below_own hoI hbp)
      have f16 := (hV12.trans (hbp.mono hV12.size))
      iterate 4 refine fw_pu rfl ?_
      refine fw_al (t := 30) (u := fun q => .pointer (some ⟨q, 0, none⟩)) 5 [.int .i64 0, .string { data := #[] }, .bool false, .int .i64 0, .bool false, .string { data := #[] }, .string { data := #[] }, .int .i64 0, .bool false, .string { data := #[] }, .bool false, .string { data := #[] }, .bool false, .bool false, .int .i64 0, .slice none 0 0, .bool false, .int .i64 0, .bool false, .string { data := #[] }, .int .i64 0, .string { data := #[] }, .slice none 0 0, .slice none 0 0] rfl rfl rfl (fun a h => (run_allocOp (by simp [go_sem, Instr.alloc]))) ?_
      intro q17 W18 g21 s19 r20
      have := Nat.le_trans b14.size g21
      have hhoI_q17 := ob_new f15 g21
      have := Nat.le_trans f16.size g21
      have hhOp_q17 := OL3.ltq hOp g21
      have b22 := b14.trans (s19.mono b14.size)
      have f23 := (below_own f15 s19)
      have f24 := (f16.trans (s19.mono f16.size))
      have f25 := (hOp.below s19)
      refine fw_st r20 rfl rfl ?_
      intro W26 s27 r28
      have b29 := below_chg b22 s27 (by omega) b22.size
      have f30 := (ob_chg f23 s27 hhoI_q17)
      have f31 := (below_chg f24 s27 (by omega) f24.size)
      have f32 := (by first | exact OL3.chgN f25 s27 hhOp_q17 | exact OL3.chg f25 s27 (by omega))
      iterate 2 refine fw_pu rfl ?_
      refine fw_dt (fw_sq (fw_rg rfl ?_))
      iterate 2 refine fw_pu rfl ?_
      refine fw_ex 41 (.pointer (some ⟨bP, (oP + i * 25), none⟩)) rfl rfl rfl (fun a h => (run_indexOp (h.ev rfl) (h.ev rfl) (by rw [haP]; exact idxAsk _ _ _ _ _ (by have := ask_len hS; omega) _))) ?_
      refine fw_pu rfl ?_
      refine fw_ex 43 (.slice ax xs.length cx) rfl rfl rfl (fun a h => (run_loadOp (h.ev rfl) (ldSl ((Below.cell b29 (p := ⟨bP, oP + i * 25 + 24, none⟩) hbP).trans (hcP 24 _ rfl))))) ?_
      refine fw_ca Tryd.func17 rfl rfl rfl ((by have h := (rparseX (ad := ax) (cd := cx) (l := xs) (hX.below b29) (by omega) (hT.below b29)); rw [hP] at h; dsimp only at h; exact h)) ?_
      rintro _ V33 ⟨acz, ccz, awz, cwz, afz, cfz, rfl, hOz, hbz⟩
      refine ⟨_, rfl, ?_⟩
      have b34 := b29.trans (hbz.mono b29.size)
      have r35 := r28.below hbz
      have f36 := (below_own f30 hbz)
      have f37 := (f31.trans (hbz.mono f31.size))
      have f38 := (f32.below hbz)
      iterate 4 refine fw_pu rfl ?_
      refine fw_al (t := 30) (u := fun q => .pointer (some ⟨q, 0, none⟩)) 8 [.int .i64 0, .string { data := #[] }, .bool false, .int .i64 0, .bool false, .string { data := #[] }, .string { data := #[] }, .int .i64 0, .bool false, .string { data := #[] }, .bool false, .string { data := #[] }, .bool false, .bool false, .int .i64 0, .slice none 0 0, .bool false, .int .i64 0, .bool false, .string { data := #[] }, .int .i64 0, .string { data := #[] }, .slice none 0 0, .slice none 0 0] rfl rfl rfl (fun a h => (run_allocOp (by simp [go_sem, Instr.alloc]))) ?_
      intro q39 W40 g43 s41 r42
      have := Nat.le_trans b34.size g43
      have := r35.lt g43
      have hhoI_q39 := ob_new f36 g43
      have := Nat.le_trans f37.size g43
      have hhOp_q39 := OL3.ltq f38 g43
      have hhOz_q39 := OL3.ltq hOz g43
      have b44 := b34.trans (s41.mono b34.size)
      have r45 := r35.below s41
      have f46 := (below_own f36 s41)
      have f47 := (f37.trans (s41.mono f37.size))
      have f48 := (f38.below s41)
      have f49 := (hOz.below s41)
      refine fw_st r42 rfl rfl ?_
      intro W50 s51 r52
      have b53 := below_chg b44 s51 (by omega) b44.size
      have r54 := r45.chg s51 (by omega)
      have f55 := (ob_chg f46 s51 hhoI_q39)
      have f56 := (below_chg f47 s51 (by omega) f47.size)
      have f57 := (by first | exact OL3.chgN f48 s51 hhOp_q39 | exact OL3.chg f48 s51 (by omega))
      have f58 := (by first | exact OL3.chgN f49 s51 hhOz_q39 | exact OL3.chg f49 s51 (by omega))
      iterate 2 refine fw_pu rfl ?_
      refine fw_dt (fw_sq (fw_sq (fw_rg rfl (fw_pu rfl (fw_ca Tryd.func18 rfl rfl rfl ((num18_any pe W50)) ?_)))))
      rintro _ _ ⟨rfl, rfl⟩
      refine ⟨(.int .i64 pe), rfl, ?_⟩
      refine fw_pu rfl (fw_ex 51 (.bool false) rfl rfl rfl (fun a h => (run_binOp (h.ev rfl) (h.ev rfl) (eqIntI _ _ _ _ _ _ _) (neqIb _ _ _ false (beq_self_eq_true _)))) ?_)
      iterate 3 refine fw_pu rfl ?_
      refine fw_ex 55 (.bool false) rfl rfl rfl (fun a h => (run_binOp (h.ev rfl) (h.ev rfl) (eqIntI _ _ _ _ _ _ _) (neqIb _ _ _ false (beq_self_eq_true _)))) ?_
      iterate 2 refine fw_pu rfl ?_
      refine fw_ld r54 rfl rfl (fw_ld r52 rfl rfl ?_)
      refine fw_ca Tryd.func19 rfl rfl rfl ((by have h := eqMq_any pm pm _ _ _ _ _ _ W50 (OL3.lists f57) (OL3.lists f58) (by omega) (by omega) (by omega) (by omega) (by omega) (by omega); rw [eqB_refl pm] at h; exact h)) ?_
      rintro _ V60 ⟨rfl, hb59⟩
      refine ⟨(.bool true), rfl, ?_⟩
      have b61 := b53.trans (hb59.mono b53.size)
      have r62 := r54.below hb59
      have r63 := r52.below hb59
      have f64 := (below_own f55 hb59)
      have f65 := (f56.trans (hb59.mono f56.size))
      have f66 := (f57.below hb59)
      have f67 := (f58.below hb59)
      iterate 6 refine fw_pu rfl ?_
      refine fw_ex 67 (.pointer (some ⟨bP, (oP + i * 25), none⟩)) rfl rfl rfl (fun a h => (run_indexOp (h.ev rfl) (h.ev rfl) (by rw [haP]; exact idxAsk _ _ _ _ _ (by have := ask_len hS; omega) _))) ?_
      refine fw_pu rfl ?_
      refine fw_ex 69 (.slice ax xs.length cx) rfl rfl rfl (fun a h => (run_loadOp (h.ev rfl) (ldSl ((Below.cell b61 (p := ⟨bP, oP + i * 25 + 24, none⟩) hbP).trans (hcP 24 _ rfl))))) ?_
      refine fw_ca Tryd.func20 rfl rfl rfl ((eqBytes_any _ _ xs xs V60 (by omega) (by omega) (Sl.of_own f64).1 (hX.below b61)).mono fun e X h => (show e = .returned (.bool true) ∧ Below V60.heap.size V60 X from ⟨h.1.trans (by simp), by obtain ⟨m, rfl⟩ := h.2; exact bdrew (Below.refl _ _) m⟩)) ?_
      rintro _ V69 ⟨rfl, hb68⟩
      refine ⟨(.bool true), rfl, ?_⟩
      have b70 := b61.trans (hb68.mono b61.size)
      have r71 := r62.below hb68
      have r72 := r63.below hb68
      have f73 := (below_own f64 hb68)
      have f74 := (f65.trans (hb68.mono f65.size))
      have f75 := (f66.below hb68)
      have f76 := (f67.below hb68)
      iterate 2 refine fw_pu rfl ?_
      refine fw_dt (fw_cF rfl rfl (fw_sk (fw_th (fw_rg rfl (fw_ld r71 rfl rfl ?_)))))
      refine fw_al (t := 30) (u := fun q => .slice (some ⟨q, 0, none⟩) 1 1) 74 [.int .i64 pm.k, .string pm.cl, .bool pm.clean, .int .i64 pm.keep, .bool pm.wI, .string pm.wT, .string pm.wP, .int .i64 pm.wQ, .bool pm.wR, .string pm.us, .bool pm.hu, .string pm.pa, .bool pm.hp, .bool pm.pres, .int .i64 pm.code, .slice acp pm.cs.length ccp, .bool pm.dup, .int .i64 pm.q, .bool pm.re, .string pm.top, .int .i64 pm.id, .string pm.pay, .slice awp pm.ws.length cwp, .slice afp pm.fs.length cfp] rfl rfl rfl (fun a h => (run_buildMq1 (h.ev rfl))) ?_
      intro q77 W78 g81 s79 r80
      have := Nat.le_trans b70.size g81
      have := r71.lt g81
      have := r72.lt g81
      have hhoI_q77 := ob_new f73 g81
      have := Nat.le_trans f74.size g81
      have hhOp_q77 := OL3.ltq f75 g81
      have hhOz_q77 := OL3.ltq f76 g81
      have b82 := b70.trans (s79.mono b70.size)
      have r83 := r71.below s79
      have r84 := r72.below s79
      have f85 := (below_own f73 s79)
      have f86 := (f74.trans (s79.mono f74.size))
      have f87 := (f75.below s79)
      have f88 := (f76.below s79)
      refine fw_ca Tryd.func21 rfl rfl rfl ((mqsX (W0 := V10) f86 (by omega) r80 f87 hhOp_q77 ⟨by omega, by omega, by omega⟩)) ?_
      rintro _ V90 ⟨rfl, hm89⟩
      refine ⟨_, rfl, ?_⟩
      have b91 := b11.trans ((f86.trans hm89).mono b11.size)
      refine fw_dn (fw_bn (fw_th (fw_rg rfl (fw_pu rfl ?_))))
      refine fw_ex 20 (.int .i64 (((i + 1) : Nat) : Int)) rfl rfl rfl (fun a h => (run_binOp (h.ev rfl) (h.ev rfl) (by simp [go_sem]) (addIw _ _ _ _ (by omega) (by omega) (by omega)))) ?_
      refine fw_pu rfl (fw_dn ?_)
      exact fw_th (fw_gf (hK3 _ _ _ (by omega) ⟨(i + 1), rfl, (by omega), rfl, b91⟩) ⟨rfl, (by first | rfl | (simp only [Look, cond, Nat.beq]; first | rfl | (congr 2; first | rfl | omega | (push_cast; omega)) | (simp; try omega))), trivial⟩)
    refine fw_cF rfl hb_5 (fw_xt (fw_te (fw_te (fw_be (fw_th (fw_sq (fw_rg rfl (fw_ca Tryd.func22 rfl rfl rfl ((wakesG (hT.below bW1))) ?_))))))))
    rintro _ V93 ⟨rfl, hb92⟩
    refine ⟨(.bool true), rfl, ?_⟩
    have b94 := bW1.trans (hb92.mono bW1.size)
    refine fw_pu rfl (fw_dt (fw_rt ?_))
    refine ⟨fun a h => ?_⟩
    exact ow_ret1 rfl h.df (h.g 2 rfl) ⟨rfl, b94⟩
  refine fw_kn 15 rfl hb_4 ?_
  iterate 3 refine fw_pu rfl ?_
  refine fw_dt (fw_cF rfl rfl (fw_xt (fw_te (fw_te (fw_be (fw_th (fw_sq (fw_rg rfl (fw_ca Tryd.func22 rfl rfl rfl ((wakesG (hT.below bW1))) ?_)))))))))
  rintro _ V96 ⟨rfl, hb95⟩
  refine ⟨(.bool true), rfl, ?_⟩
  have b97 := bW1.trans (hb95.mono bW1.size)
  refine fw_pu rfl (fw_dt (fw_rt ?_))
  refine ⟨fun a h => ?_⟩
  exact ow_ret1 rfl h.df (h.g 2 rfl) ⟨rfl, b97⟩
end
end Go.Proofs.YtpgnlhfokffioaaDoor
