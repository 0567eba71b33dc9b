import Derived.Test.YtibmjljofopldaaEthA
import Derived.Deep.RegionHeld3
namespace Go.Proofs.Ytibmjljofopldaa
open Go.RowKit
/-- The same law as one step of a region that draws. -/
theorem stepAppendAll {P : Program} {ops : Array Oper} {o : Oper} {a : Act} {w : World} {K : Act → World → Prop} {Q : Exit → Act → World → Prop} {E : Prop} (hgd : o.guard = none) (s x : Operand) (t e : TypeId)
    (ho : o.op = .call { callee := .builtin .append, args := #[s, x], argTypes := #[t, t] }) (base : Nat) (i : TypeInfo) (ht : P.underlying t = some (.slice e)) (hi : P.info? e = some i) (hz : i.zero = some (.int .u8 0))
    (hsize : i.size = 1) (hby : i.bytes = 1) (v : Value) (n : Nat) (xs l : List UInt8) (hs : a.eval s = v) (hown : w.ownsRow base e 1 v n (xs.map B8)) (ad : Addr) (m cap : Nat) (hm : m = l.length) (hx : a.eval x = .slice (some ad) m cap) (hl : Sl w (.slice (some ad) m cap) l)
    (hb1 : n ≤ 100000000) (hb2 : l.length ≤ 100000000) (hbase : base ≤ w.heap.size)
    (h : ∀ v' w', w'.ownsRow base e 1 v' (n + l.length) ((xs ++ l).map B8) → Grew w w' v v' → K (a.put o.dst v') w') : if Region.wanted o (yielded ops a.tmps) = true then Oper.wp P o a w K Q else E := by
  have hw : Region.wanted o (yielded ops a.tmps) = true := by simp [Region.wanted, hgd]
  rw [if_pos hw]
  subst hm
  obtain ⟨v', w', hr, h2, h3, h4⟩ := run_append_at (P := P) w base t o.type e i (.int .u8 0) 1 1 ht hi hz hsize hby rfl (by decide) v n (xs.map B8) hown ad l.length cap (l.map B8) (by simp) hl.news (B8_one l) (by unfold maxLen; omega) (by omega) hbase
  unfold Oper.wp execOp
  simp only [ho, resolve, invoke, builtin, Sem.run_bind, Sem.run_pure, Result.andThen_ok, List.map_toArray, List.map_cons, List.map_nil, hs, hx, hr]
  exact h v' w' (by rw [List.map_append]; exact h2) ((Grew.refl w v).app0 h3 h4)
theorem _root_.Go.Grew.other {w w' : World} {v2 : Value} (h : Grew w w' (.slice none 0 0) v2) (v : Value) : Grew w w' v v :=
  ⟨⟨h.1.os, h.1.tape, h.1.output, h.1.size, fun k hk _ => h.1.block k hk (by simp [Value.ownBlock])⟩, .inl rfl⟩
theorem own_mono {w : World} {base base' e size n : Nat} {v : Value} {xs : List Value} (h : w.ownsRow base e size v n xs) (hb : base' ≤ base) : w.ownsRow base' e size v n xs := by
  obtain ⟨h1, h2⟩ := h
  refine ⟨h1, ?_⟩
  rcases h2 with h2 | ⟨g, cap, cur, hv, hg, r⟩
  · exact .inl h2
  · exact .inr ⟨g, cap, cur, hv, Nat.le_trans hb hg, r⟩
theorem own_slice {w : World} {base e size n : Nat} {v : Value} {xs : List Value} (h : w.ownsRow base e size v n xs) : ∃ ao cap, v = .slice ao n cap := by
  rcases h.2 with ⟨rfl, rfl⟩ | ⟨g, cap, cur, rfl, _⟩
  · exact ⟨none, 0, rfl⟩
  · exact ⟨_, cap, rfl⟩
theorem bigv_ne (v : Int) (n : Nat) (h : 0 < n) : bigv v n ≠ [] := by
  intro he; have := bigv_length v n; rw [he] at this; simp at this; omega
theorem kept_nil {w w' : World} {base e size n : Nat} {v : Value} {xs : List Value} (h : w.ownsRow base e size v n xs) (hg : w.grownBy w' (Value.slice none 0 0).ownBlock) : w'.ownsRow base e size v n xs := by
  refine h.kept hg ?_
  cases hv : v.ownBlock with
  | none => exact .inl rfl
  | some k => exact .inr (by simp [Value.ownBlock])
theorem wp_gen {P : Program} {c : Code} {Q' : Exit → Act → World → Prop} {a : Act} {W : World} (Q : World → Prop) (h : Q W) (k : ∀ W, Q W → c.wp P Q' a W) : c.wp P Q' a W := k W h
set_option maxRecDepth 100000 in
set_option maxHeartbeats 4000000 in
theorem frameBytes_any (f : Fr) (ao : Option Addr) (cap : Nat) (w : World) (hl : f.data.length ≤ 5000) (hd : Sl w (.slice ao f.data.length cap) f.data) :
    Calls Try.prog 41 #[.agg #[.int .i64 f.dst, .int .i64 f.src, .int .i64 f.ty, .slice ao f.data.length cap]] w fun e w' => ∃ v', e = .returned v' ∧ Below w.heap.size w w' ∧ w'.ownsRow w.heap.size 5 1 v' (frBytes f).length ((frBytes f).map B8) := by
  have HD := Lib.hid hd; clear hd
  obtain ⟨i0, hi, hz0, hz1, hz2⟩ := info_parts infoU8
  go_enter Try.func41, Try.ntmps41
  go_wp2_with fail
  refine wp_gen (fun W => W.cell? ⟨w.heap.size, 0, none⟩ = some (.int .i64 f.dst) ∧ W.cell? ⟨w.heap.size, 1, none⟩ = some (.int .i64 f.src) ∧ W.cell? ⟨w.heap.size, 2, none⟩ = some (.int .i64 f.ty) ∧ W.cell? ⟨w.heap.size, 3, none⟩ = some (.slice ao f.data.length cap) ∧ Below w.heap.size w W ∧ w.heap.size < W.heap.size) ⟨by simp [go_sem], by simp [go_sem], by simp [go_sem], by simp [go_sem], (Below.refl _ w).alloc (Nat.le_refl _) _, by simp⟩ ?_
  rintro W ⟨c0, c1, c2, c3, hbW, hsW⟩
  have C2 := Lib.hid c2; have C3 := Lib.hid c3; have C3B := Lib.hid c3; clear c2 c3
  go_region_held3 (fun w' => w'.cell? ⟨w.heap.size, 0, none⟩ = some (.int .i64 f.dst) ∧ w'.cell? ⟨w.heap.size, 1, none⟩ = some (.int .i64 f.src)) (first | (exact ⟨by assumption, by assumption⟩) | (simp [go_sem, *]; done) | (refine ⟨((grew_nil (by assumption)).cell (by simp; omega)).trans ?_, ((grew_nil (by assumption)).cell (by simp; omega)).trans ?_⟩ <;> first | assumption | (simp [go_sem, *]; done))) (first | (go_at_call_of 59 (Value.int .i64 f.dst); refine (big_k _ 6 _ _ rfl (by omega)).mono ?_; rintro e w1 ⟨v1, rfl, hg1, ho1⟩; have hsz1 := hg1.1.size; simp at hsz1) | (go_at_call_of 59 (Value.int .i64 f.src); refine (big_k _ 6 _ _ rfl (by omega)).mono ?_; rintro e w2 ⟨v2, rfl, hg2, ho2⟩; obtain ⟨g2, cap2, rfl, hgb2, hgc2, hgm2, hO2⟩ := own_of ho2 (bigv_ne _ _ (Nat.succ_pos _)); have ho1k := kept_nil ho1 hg2.1; have hsz2 := hg2.1.size) | (refine stepAppendAll rfl _ _ 34 5 rfl _ i0 Try.underlying34 hi hz0 hz1 hz2 _ _ (bigv f.dst 6) (bigv f.src 6) rfl ho1k _ _ _ rfl rfl (hO2.sl cap2 hgc2 hgm2) ?_ ?_ ?_ ?_; (· omega); (· (simp [bigv_length])); (· (simp; omega)); intro v3 w3 ho3 hg3; have hgt := (hg1.trans (Go.Grew.other hg2 v1)).trans hg3; have k0 : w3.cell? ⟨w.heap.size, 0, none⟩ = some (.int .i64 f.dst) := ((grew_nil hgt).cell (p := ⟨w.heap.size, 0, none⟩) hsW).trans c0; have k1 : w3.cell? ⟨w.heap.size, 1, none⟩ = some (.int .i64 f.src) := ((grew_nil hgt).cell (p := ⟨w.heap.size, 1, none⟩) hsW).trans c1))
  have c2 : w3.cell? ⟨w.heap.size, 2, none⟩ = some (.int .i64 f.ty) := ((grew_nil hgt).cell (p := ⟨w.heap.size, 2, none⟩) hsW).trans C2.out
  have c3 : w3.cell? ⟨w.heap.size, 3, none⟩ = some (.slice ao f.data.length cap) := ((grew_nil hgt).cell (p := ⟨w.heap.size, 3, none⟩) hsW).trans C3.out
  have hs3 : W.heap.size ≤ w3.heap.size := hgt.1.size
  clear hg1 hg2 hg3 ho1 ho2 ho1k hO2 hgb2 hgc2 hgm2 k0 k1 c0 c1 C2 C3
  go_wp2_with fail
  refine (big_k _ 2 _ _ rfl (by omega)).mono ?_
  rintro e w4 ⟨v4, rfl, hg4, ho4⟩
  obtain ⟨g4, cap4, rfl, hgb4, hgc4, hgm4, hO4⟩ := own_of ho4 (bigv_ne _ _ (Nat.succ_pos _))
  have ho3k := kept_nil ho3 hg4.1
  have hgt4 := hgt.trans (Go.Grew.other hg4 v3)
  have c34 : w4.cell? ⟨w.heap.size, 3, none⟩ = some (.slice ao f.data.length cap) := ((grew_nil hg4).cell (p := ⟨w.heap.size, 3, none⟩) (by simp; omega)).trans c3
  have hs4 := hg4.1.size
  have hS4 := hO4.sl cap4 hgc4 hgm4
  clear ho3 hg4 ho4 c2 c3 hO4
  go_wp2_with (first
    | (at_builtin; refine appendAll rfl (.tmp 11) (.tmp 14) 34 5 rfl _ i0 Try.underlying34 hi hz0 hz1 hz2 _ _ _ (bigv f.ty 2) rfl ho3k _ rfl hS4 ?_ ?_ ?_ ?_; (· (simp [bigv_length])); (· (simp [bigv_length])); (· (simp; omega)); intro v5 w5 ho5 hg5; have hgt5 := hgt4.trans hg5; have c35 : w5.cell? ⟨w.heap.size, 3, none⟩ = some (.slice ao f.data.length cap) := ((grew_nil hgt5).cell (p := ⟨w.heap.size, 3, none⟩) hsW).trans C3B.out; have hb5 : Below w.heap.size w w5 := hbW.trans (((Below.refl _ W).drew).trans ((grew_nil hgt5).mono (Nat.le_of_lt hsW))); have hS5 := HD.out.below hb5; have hs5 := hgt5.1.size)
    | (at_builtin; refine appendAll rfl (.tmp 16) (.tmp 18) 34 5 rfl _ i0 Try.underlying34 hi hz0 hz1 hz2 _ _ _ f.data rfl ho5 _ rfl hS5 ?_ ?_ ?_ ?_; (· (simp [bigv_length])); (· omega); (· (simp at hs5 ⊢; omega)); intro v6 w6 ho6 hg6))
  go_ret
  have hgt6 := hgt5.trans hg6
  have hb6 : Below w.heap.size w w6 := hbW.trans (((Below.refl _ W).drew).trans ((grew_nil hgt6).mono (Nat.le_of_lt hsW)))
  have hct : 6 + (bigv f.src 6).length + (bigv f.ty 2).length + f.data.length = (frBytes f).length := by simp [frBytes, bigv_length]; omega
  refine ⟨v6, rfl, hb6, ?_⟩
  rw [← hct]
  have ho7 := own_mono ho6 (show w.heap.size ≤ W.drew.heap.size from Nat.le_of_lt hsW)
  simpa only [frBytes, List.append_assoc] using ho7
end Go.Proofs.Ytibmjljofopldaa
