/-
  An outbox: what OutboxOnce keeps in memory: what waits, two arrays.
-/
import Derived.Test.YtcglmkcefenjcaaObV
import Derived.Test.YtcglmkcefenjcaaObO
import Derived.Test.YtcglmkcefenjcaaObN
import Derived.Test.YtcglmkcefenjcaaWithin
import Derived.Test.YtcglmkcefenjcaaReadM
import Derived.Test.YtcglmkcefenjcaaReadZ
namespace Go.Proofs.Ytcglmkcefenjcaa
open Go.RowKit Go.Lib
/-- What waits is the rest of a row of our own: but for the world. -/
def TailAt (v : Value) (D L : List EPk) (v0 : Value) : Prop := (v = .slice none 0 0 ∧ v0 = .slice none 0 0 ∧ D = [] ∧ L = []) ∨
    ∃ g cap ad, v = .slice (some ad) L.length (cap - D.length) ∧ v0 = .slice (some ⟨g, 0, none⟩) (D ++ L).length cap ∧ (0 < cap - D.length → ad = ⟨g, D.length * 24, none⟩)
theorem TailAt.nil : TailAt (.slice none 0 0) [] [] (.slice none 0 0) := .inl ⟨rfl, rfl, rfl, rfl⟩
theorem TailAt.form {v v0 : Value} {D L : List EPk} (h : TailAt v D L v0) : ∃ a c, v = .slice a L.length c := by
  rcases h with ⟨rfl, -, -, rfl⟩ | ⟨g, cap, ad, rfl, -⟩
  · exact ⟨none, 0, rfl⟩
  · exact ⟨_, _, rfl⟩
theorem TailAt.own {W : World} {B : Nat} {v : Value} {L : List EPk} (h : PkOwn W B v L) : TailAt v [] L v := by
  obtain ⟨a, c, rfl⟩ := own_slice h
  rcases h.2 with ⟨h0, h1⟩ | ⟨g, cap, cur, hv, hb, hh, hle, hcap, hcs, ht⟩
  · injection h0 with e1 e2 e3
    subst e1
    obtain rfl : L = [] := List.eq_nil_of_length_eq_zero e2
    subst e3
    exact .inl ⟨rfl, rfl, rfl, rfl⟩
  · injection hv with e1 e2 e3
    subst e1
    exact .inr ⟨g, c, ⟨g, 0, none⟩, by simp, by simp, fun _ => by simp⟩
set_option maxHeartbeats 2000000 in
/-- More behind it. -/
theorem tail_many {o : Oper} {a : Act} {w : World} (s x : Operand) (ho : o.op = .call { callee := .builtin .append, args := #[s, x], argTypes := #[86, 86] }) {B : Nat} {v v0 vx : Value} {D L K : List EPk} (hs : a.eval s = v) (hown : PkOwn w B v0 (D ++ L)) (ht : TailAt v D L v0) (hx : a.eval x = vx) (hk : SlR w 24 vx (K.map rowPk)) (hn : (D ++ L).length ≤ 100000) (hm : K.length ≤ 100000) (hbase : B ≤ w.heap.size) :
    opTo Try.prog o a w fun v' w' => ∃ D' v1 aw cw, v' = .slice aw (L ++ K).length cw ∧ PkOwn w' B v1 (D' ++ (L ++ K)) ∧ TailAt (.slice aw (L ++ K).length cw) D' (L ++ K) v1 ∧ Grew w w' v0 v1 ∧ (D' ++ (L ++ K)).length ≤ (D ++ L).length + K.length := by
  obtain ⟨i0, hi, hz0, hz1, hz2⟩ := info_parts infoPk
  have hlenA : ∀ X : List EPk, (X ++ (L ++ K)).length = X.length + (L.length + K.length) := fun X => by rw [List.length_append, List.length_append]
  have hlen : (D ++ L).length = D.length + L.length := List.length_append
  rcases ht with ⟨rfl, rfl, rfl, rfl⟩ | ⟨g, cap, ad, rfl, rfl, had⟩
  · refine opTo_upO (Pk_apps s x ho (L := []) hs hown hx hk (by simp) hm hbase) fun v' w' ⟨h2, h3⟩ => ?_
    obtain ⟨ao, c2, rfl⟩ := own_slice h3
    exact ⟨[], _, ao, c2, rfl, h3, TailAt.own h3, h2, by simp⟩
  obtain ⟨ax, cx, rfl, hx1, hx2, hx3, hx4⟩ := id hk
  rw [List.length_map] at hx hk
  have hown0 := hown
  rcases hown.2 with ⟨h0, -⟩ | ⟨g', cap', cur, hv, hbg, hh, hle, hcap, hcs, htake⟩
  · cases h0
  simp only [Value.slice.injEq, Option.some.injEq, Addr.mk.injEq, and_true, true_and] at hv
  obtain ⟨rfl, rfl⟩ := hv
  cases ax with
  | none =>
    obtain rfl : K = [] := List.eq_nil_of_length_eq_zero (by have := hx3 rfl; rw [List.length_map] at hx1; omega)
    have hc := hx3 rfl
    subst hc
    have hle2 : L.length ≤ cap - D.length := by omega
    refine .inl ⟨.slice (some ad) L.length (cap - D.length), w, ?_, D, .slice (some ⟨g, 0, none⟩) (D ++ L).length cap, some ad, cap - D.length, by simp, by simpa using hown, by rw [List.append_nil]; exact .inr ⟨g, cap, ad, rfl, rfl, had⟩, Grew.refl _ _, by simp⟩
    unfold execOp
    simp only [ho, resolve, invoke, builtin, Sem.run_bind, Sem.run_pure, Result.andThen_ok, List.map_toArray, List.map_cons, List.map_nil, hs, hx, List.length_nil]
    simp [Builtin.append_, run_underlying Try.underlying86, sizeOf, typeInfo, hi, Builtin.lenOf, Builtin.firstCells, hle2, storeCells]
  | some b =>
    have hnews := SlR.news (by decide) (Pk_n K) (by rw [List.length_map]; exact hk)
    have h1 := Pk_one K
    have hfl : ((K.map rowPk).flatten).length = K.length * 24 := by rw [flatten_len _ (Pk_n K), List.length_map]
    by_cases hroom : L.length + K.length ≤ cap - D.length
    · by_cases hK0 : K = []
      · subst hK0
        have hle2 : L.length ≤ cap - D.length := by simpa using hroom
        refine .inl ⟨.slice (some ad) L.length (cap - D.length), w, ?_, D, .slice (some ⟨g, 0, none⟩) (D ++ L).length cap, some ad, cap - D.length, by simp, by simpa using hown, by rw [List.append_nil]; exact .inr ⟨g, cap, ad, rfl, rfl, had⟩, Grew.refl _ _, by simp⟩
        have hf := run_firstCells_some (P := Try.prog) (w := w) i0.size 0 b 0 cx [] (by simp) (fun j v hj => by simp at hj)
        unfold execOp
        simp only [ho, resolve, invoke, builtin, Sem.run_bind, Sem.run_pure, Result.andThen_ok, List.map_toArray, List.map_cons, List.map_nil, hs, hx, List.length_nil]
        simp [Builtin.append_, run_underlying Try.underlying86, sizeOf, typeInfo, hi, Builtin.lenOf, hf, hle2, storeCells]
      have hKp : 0 < K.length := List.length_pos_iff.2 hK0
      obtain rfl := had (by omega)
      obtain ⟨v', w', hr', h2, h3, h4⟩ := run_append_at (P := Try.prog) w B 86 o.type 99 i0 _ 24 288 Try.underlying86 hi hz0 hz1 hz2 rfl (by decide) _ (D ++ L).length _ hown0 b K.length cx _ hfl hnews h1 (by unfold maxLen; omega) (by omega) hbase
      have hA := run_append_room (P := Try.prog) w 86 o.type 99 i0 Try.underlying86 hi g (D ++ L).length cap cur hh b K.length cx _ (by rw [hz1]; exact hfl) hnews h1 (by omega) (by rw [hz1, hcs, hfl]; omega)
      have hB := append_roomO (P := Try.prog) w 86 o.type 99 i0 Try.underlying86 hi g (D.length * 24) L.length (cap - D.length) cur hh b K.length cx _ (by rw [hz1]; exact hfl) hnews h1 hroom (by rw [hz1, hcs, hfl]; omega)
      rw [hA] at hr'
      injection hr' with e1 e2
      have hoff : D.length * 24 + L.length * i0.size = (D ++ L).length * i0.size := by rw [hz1, hlen]; omega
      rw [hoff, e2] at hB
      have hl2 : (D ++ (L ++ K)).length = (D ++ L).length + K.length := by rw [hlenA, hlen]; omega
      refine .inl ⟨.slice (some ⟨g, D.length * 24, none⟩) (L.length + K.length) (cap - D.length), w', ?_, D, v', some ⟨g, D.length * 24, none⟩, cap - D.length, ?_, ?_, .inr ⟨g, cap, _, rfl, ?_, fun _ => rfl⟩, (Grew.refl w _).app0 h3 h4, by rw [hl2]; exact Nat.le_refl _⟩
      · unfold execOp
        simp only [ho, resolve, invoke, builtin, Sem.run_bind, Sem.run_pure, Result.andThen_ok, List.map_toArray, List.map_cons, List.map_nil, hs, hx, hB]
      · rw [List.length_append]
      · unfold PkOwn
        rw [hl2, ← List.append_assoc, List.map_append, List.flatten_append]
        exact h2
      · rw [← e1, hl2]
    · have hKp : 0 < K.length := by omega
      have hrow := obRowD hown0
      obtain ⟨v', w', hr', h2, h3⟩ := run_append_arg_grows (P := Try.prog) w 86 o.type 99 i0 _ 24 288 Try.underlying86 hi hz0 hz1 hz2 rfl (by decide) ad L.length (cap - D.length) ((L.map rowPk).flatten) (by rw [flatten_len _ (Pk_n L), List.length_map]) (fun j u hj => by
          obtain rfl := had (by have h5 : j < L.length * 24 := by have := (List.getElem?_eq_some_iff.1 hj).1; rwa [flatten_len _ (Pk_n L), List.length_map] at this
                                omega)
          have e' : ((⟨g, D.length * 24, none⟩ : Addr).add j) = ⟨g, D.length * 24 + j, none⟩ := by unfold Addr.add; split <;> simp_all
          rw [e']
          refine hrow.1 _ _ ?_
          rw [List.map_append, List.flatten_append, List.getElem?_append_right (by rw [flatten_len _ (Pk_n D), List.length_map]; omega), flatten_len _ (Pk_n D), List.length_map, Nat.add_sub_cancel_left]
          exact hj) b K.length cx _ hfl hnews (by omega) (by unfold maxLen; omega) (by omega)
      obtain ⟨ao, c2, rfl⟩ := own_slice h2
      obtain ⟨g2, rfl⟩ := obPtr h2 (by omega)
      have hg2 := (blk_lt h2 rfl).1
      have hLK : (L ++ K).length = L.length + K.length := List.length_append
      refine .inl ⟨.slice (some ⟨g2, 0, none⟩) (L.length + K.length) c2, w', ?_, [], .slice (some ⟨g2, 0, none⟩) (L.length + K.length) c2, some ⟨g2, 0, none⟩, c2, by rw [hLK], ?_, .inr ⟨g2, c2, ⟨g2, 0, none⟩, ?_, ?_, fun _ => by simp⟩, ⟨⟨h3.os, h3.tape, h3.output, h3.size, fun k hk _ => h3.block k hk (by simp)⟩, .inr ⟨g2, rfl, hg2⟩⟩, by rw [hlenA, hlen]; simp⟩
      · unfold execOp
        simp only [ho, resolve, invoke, builtin, Sem.run_bind, Sem.run_pure, Result.andThen_ok, List.map_toArray, List.map_cons, List.map_nil, hs, hx, hr']
      · unfold PkOwn
        rw [List.nil_append, hLK, List.map_append, List.flatten_append]
        exact own_mono h2 hbase
      · simp
      · simp
theorem slP1 {W : World} {q : Nat} {e : EPk} (h : RowAt W q (rowPk e)) : SlR W 24 (.slice (some ⟨q, 0, none⟩) 1 1) ([e].map rowPk) := by
  refine ⟨some ⟨q, 0, none⟩, 1, rfl, Nat.le_refl _, by unfold maxLen; decide, fun e => (nomatch e), fun _ => ⟨q, 0, rfl, h.2.2, fun i r hr j u hj => ?_⟩⟩
  match i, hr with
  | 0, hr => simp at hr; subst hr; have := h.1 j u hj; simpa using this
  | i + 1, hr => simp at hr
/-- One more behind it. -/
theorem tail_one {o : Oper} {a : Act} {w : World} (s x : Operand) (ho : o.op = .call { callee := .builtin .append, args := #[s, x], argTypes := #[86, 86] }) {B q : Nat} {v v0 : Value} {D L : List EPk} {e : EPk} (hs : a.eval s = v) (hown : PkOwn w B v0 (D ++ L)) (ht : TailAt v D L v0) (hx : a.eval x = .slice (some ⟨q, 0, none⟩) 1 1) (hr : RowAt w q (rowPk e)) (hn : (D ++ L).length ≤ 100000) (hbase : B ≤ w.heap.size) :
    opTo Try.prog o a w fun v' w' => ∃ D' v1 aw cw, v' = .slice aw (L ++ [e]).length cw ∧ PkOwn w' B v1 (D' ++ (L ++ [e])) ∧ TailAt (.slice aw (L ++ [e]).length cw) D' (L ++ [e]) v1 ∧ Grew w w' v0 v1 ∧ (D' ++ (L ++ [e])).length ≤ (D ++ L).length + 1 :=
  tail_many s x ho hs hown ht hx (slP1 hr) hn (by simp) hbase
/-- The first one is taken away. -/
theorem tail_away {w : World} {B : Nat} {v v0 : Value} {D L : List EPk} {q : EPk} (hown : PkOwn w B v0 (D ++ (q :: L))) (ht : TailAt v D (q :: L) v0) :
    ∃ aw cw, (Instr.sliceAt 86 v (some (.int .i64 1)) none none).run Try.prog w = .ok (.slice aw L.length cw) w ∧ TailAt (.slice aw L.length cw) (D ++ [q]) L v0 := by
  obtain ⟨v', h1, -, h3⟩ := tail_cut (w := w) (base := B) ⟨hown, ht⟩
  obtain ⟨a, c, rfl⟩ := TailAt.form h3
  exact ⟨a, c, h1, h3⟩
/-- The first one, as it lies. -/
theorem tail_first {w : World} {B : Nat} {aw : Option Addr} {n cw : Nat} {v0 : Value} {D L : List EPk} {q : EPk} (hown : PkOwn w B v0 (D ++ (q :: L))) (ht : TailAt (.slice aw n cw) D (q :: L) v0) :
    ∃ g, aw = some ⟨g, D.length * 24, none⟩ ∧ ∀ j u, (rowPk q)[j]? = some u → w.cell? ⟨g, D.length * 24 + j, none⟩ = some u := by
  obtain ⟨g, n', c, e, -, h⟩ := TailOwn.slR (w := w) (base := B) ⟨hown, ht⟩
  injection e with e1
  exact ⟨g, e1, h⟩
theorem pk_cell {W : World} {b o n c k : Nat} {ps : List EPk} {p : EPk} (h : SlR W 24 (.slice (some ⟨b, o, none⟩) n c) (ps.map rowPk)) (hk : ps[k]? = some p) : ∀ j u, (rowPk p)[j]? = some u → W.cell? ⟨b, o + k * 24 + j, none⟩ = some u := by
  obtain ⟨b', o', e, -, h2⟩ := slR_at h (i := k) (q := rowPk p) (by rw [List.getElem?_map, hk]; rfl)
  injection e with e; injection e with e1 e2
  subst e1 e2
  exact h2
theorem pk_addr {W : World} {n c k : Nat} {a : Option Addr} {ps : List EPk} {p : EPk} (h : SlR W 24 (.slice a n c) (ps.map rowPk)) (hk : ps[k]? = some p) : ∃ b o, a = some ⟨b, o, none⟩ := by
  obtain ⟨b', o', e, -, -⟩ := slR_at h (i := k) (q := rowPk p) (by rw [List.getElem?_map, hk]; rfl)
  exact ⟨b', o', e⟩
theorem ldB1w {W : World} {b o : Nat} {x : Bool} (h : W.cell? ⟨b, o, none⟩ = some (.bool x)) : (Instr.loadAt 4 (.pointer (some ⟨b, o, none⟩))).run Try.prog W = .ok (.bool x) W := by simp [go_sem, Instr.loadAt, h]
-- arrays
def iR (s : Nat → Int) : List Value := (List.range 65).map fun n => .int .i64 (s n)
def bR (s : Nat → Bool) : List Value := (List.range 65).map fun n => .bool (s n)
theorem iR_len (s : Nat → Int) : (iR s).length = 65 := by unfold iR; rw [List.length_map, List.length_range]
theorem bR_len (s : Nat → Bool) : (bR s).length = 65 := by unfold bR; rw [List.length_map, List.length_range]
theorem iR_at (s : Nat → Int) {n : Nat} (h : n < 65) : (iR s)[n]? = some (.int .i64 (s n)) := by unfold iR; rw [List.getElem?_map, List.getElem?_range h]; rfl
theorem bR_at (s : Nat → Bool) {n : Nat} (h : n < 65) : (bR s)[n]? = some (.bool (s n)) := by unfold bR; rw [List.getElem?_map, List.getElem?_range h]; rfl
theorem iR_set (s : Nat → Int) (n : Nat) (x : Int) : (iR s).set n (.int .i64 x) = iR fun m => if m = n then x else s m := by
  refine List.ext_getElem? fun j => ?_
  rw [List.getElem?_set]
  by_cases hj : j < 65
  · rw [iR_at _ hj, iR_at _ hj, iR_len]
    by_cases e : n = j
    · subst e; simp [hj]
    · rw [if_neg e, if_neg (fun h => e h.symm)]
  · rw [List.getElem?_eq_none (by rw [iR_len]; omega), List.getElem?_eq_none (by rw [iR_len]; omega), iR_len]
    by_cases e : n = j
    · subst e; simp; omega
    · rw [if_neg e]
theorem bR_set (s : Nat → Bool) (n : Nat) : (bR s).set n (.bool true) = bR (recF s n) := by
  refine List.ext_getElem? fun j => ?_
  rw [List.getElem?_set]
  by_cases hj : j < 65
  · rw [bR_at _ hj, bR_at _ hj, bR_len]
    unfold recF
    by_cases e : n = j
    · subst e; simp [hj]
    · rw [if_neg e, if_neg (fun h => e h.symm)]
  · rw [List.getElem?_eq_none (by rw [bR_len]; omega), List.getElem?_eq_none (by rw [bR_len]; omega), bR_len]
    by_cases e : n = j
    · subst e; simp; omega
    · rw [if_neg e]
theorem al84 {a : Act} {w : World} {d : Option Tmp} {ty : TypeId} {pos : String} {af : Array Edge} {gd : Option (Nat × Bool)} : (execOp a.eval ⟨d, .alloc 84, ty, pos, af, gd⟩).run Try.prog w = .ok (.value (.pointer (some ⟨w.heap.size, 0, none⟩))) (w.alloc (.cells (iR fun _ => 0).toArray 84)) := by
  have hz : (Try.prog.info? 84).bind (·.zero) = some (.agg (iR fun _ => 0).toArray) := by kernel_rfl
  cases hi : Try.prog.info? 84 with
  | none => rw [hi] at hz; cases hz
  | some i =>
    rw [hi] at hz
    have hz' : i.zero = some (.agg (iR fun _ => 0).toArray) := hz
    simp [execOp, Instr.alloc, zeroValue, typeInfo, hi, hz', newVar, newRow, Value.cells]
theorem al85 {a : Act} {w : World} {d : Option Tmp} {ty : TypeId} {pos : String} {af : Array Edge} {gd : Option (Nat × Bool)} : (execOp a.eval ⟨d, .alloc 85, ty, pos, af, gd⟩).run Try.prog w = .ok (.value (.pointer (some ⟨w.heap.size, 0, none⟩))) (w.alloc (.cells (bR fun _ => false).toArray 85)) := by
  have hz : (Try.prog.info? 85).bind (·.zero) = some (.agg (bR fun _ => false).toArray) := by kernel_rfl
  cases hi : Try.prog.info? 85 with
  | none => rw [hi] at hz; cases hz
  | some i =>
    rw [hi] at hz
    have hz' : i.zero = some (.agg (bR fun _ => false).toArray) := hz
    simp [execOp, Instr.alloc, zeroValue, typeInfo, hi, hz', newVar, newRow, Value.cells]
section
variable {P : Program} {ops : Array Oper} {Q : Exit → Act → World → Prop} {n q j : Nat} {L : Kn} {o : Oper} {l : List Oper} {W : World} {vs : List Value}
/-- A cell of an array is stored. -/
theorem fw_sr {T : List TE} [hTk : TOk P T] {u : Value} {vs' : List Value} (r : RowAt W q vs) (hs : storeC T ops L o = some (q, j, [u])) (hj : j < vs.length) (h1 : u.oneCell' = true) (hv : vs.set j u = vs')
    (k : ∀ W', W.grownBy W' (some q) → RowAt W' q vs' → Fr n L (WL P ops Q l) W') : Fr n L (WL P ops Q (o :: l)) W :=
  ⟨fun a h => by
    obtain ⟨h4, h2, h3⟩ := storeC_run hTk.ok h hs r (by unfold stB; rw [Bool.and_eq_true]; exact ⟨Nat.ble_eq_true_of_le (by simp only [List.length_cons, List.length_nil]; omega), by simp [h1]⟩)
    refine owl_skip (wantL_sound h h3) _ h2 h4 ((k _ (gr_sets q [u] j W) ?_).out _ h)
    rw [← hv]
    exact r.set1 j u hj⟩
end
end Go.Proofs.Ytcglmkcefenjcaa
