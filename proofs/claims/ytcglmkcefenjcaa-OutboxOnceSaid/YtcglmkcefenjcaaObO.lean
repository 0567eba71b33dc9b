/-
  An outbox: packets that wait: the rest of a row of our own, and one more behind it.
-/
import Derived.Test.YtcglmkcefenjcaaObI
import Derived.ArgAppend
namespace Go.Proofs.Ytcglmkcefenjcaa
open Go.RowKit Go.Lib
/-- An append within the room of a row, from a place of it on. -/
theorem append_roomO {P : Program} (w : World) (t ty e : TypeId) (i : TypeInfo) (ht : P.underlying t = some (.slice e)) (hi : P.info? e = some i)
    (g off sLen sCap : Nat) (cur : Array Value) (hg : w.heap[g]? = some (.cells cur e (0, 0)))
    (a : Addr) (m c : Nat) (news : List Value) (hl : news.length = m * i.size) (hnews : ∀ j u, news[j]? = some u → w.cell? (a.add j) = some u) (h1 : ∀ u ∈ news, u.oneCell' = true)
    (hroom : sLen + m ≤ sCap) (hfit : off + sLen * i.size + news.length ≤ cur.size) :
    (Builtin.append_ #[t, t] ty #[.slice (some ⟨g, off, none⟩) sLen sCap, .slice (some a) m c]).run P w =
      .ok (.slice (some ⟨g, off, none⟩) (sLen + m) sCap) (w.setRow g (cur.toList.take (off + sLen * i.size) ++ news ++ cur.toList.drop (off + sLen * i.size + news.length)).toArray) := by
  have hf := run_firstCells_some (P := P) w i.size m a m c news hl hnews
  have hst := run_storeCells_at P g (off + sLen * i.size) e news 0 cur w hg (by simpa using hfit) h1
  simp only [Nat.add_zero] at hst
  simp [Builtin.append_, run_underlying ht, sizeOf, typeInfo, hi, Builtin.lenOf, hroom, hf, Addr.add_lit, hst]
theorem opTo_upO {P : Program} {o : Oper} {a : Act} {w : World} {K K' : Value → World → Prop} (h : opTo P o a w K) (hk : ∀ v w', K v w' → K' v w') : opTo P o a w K' := by
  unfold opTo at h ⊢
  rcases h with ⟨v, w', h1, h2⟩ | ⟨f, args, h1, h2⟩ | ⟨w', h1, h2⟩
  · exact .inl ⟨v, w', h1, hk _ _ h2⟩
  · exact .inr (.inl ⟨f, args, h1, h2.mono fun e w' h => by obtain ⟨v, he, hv⟩ := h; exact ⟨v, he, hk _ _ hv⟩⟩)
  · exact .inr (.inr ⟨w', h1, hk _ _ h2⟩)
/-- The rest L of a row whose first elements D were taken away. -/
def TailOwn (w : World) (base : Nat) (v : Value) (D L : List EPk) (v0 : Value) : Prop :=
  PkOwn w base v0 (D ++ L) ∧ ((v = .slice none 0 0 ∧ v0 = .slice none 0 0 ∧ D = [] ∧ L = []) ∨
    ∃ g cap ad, v = .slice (some ad) L.length (cap - D.length) ∧ v0 = .slice (some ⟨g, 0, none⟩) (D ++ L).length cap ∧ (0 < cap - D.length → ad = ⟨g, D.length * 24, none⟩))
set_option maxHeartbeats 1000000 in
theorem Pk_tail {o : Oper} {a : Act} {w : World} (s x : Operand) (ho : o.op = .call { callee := .builtin .append, args := #[s, x], argTypes := #[86, 86] }) {base q : Nat} {v v0 : Value} {D L : List EPk} {e : EPk} (hs : a.eval s = v) (hown : TailOwn w base v D L v0) (hx : a.eval x = .slice (some ⟨q, 0, none⟩) 1 1) (hr : RowAt w q (rowPk e)) (hn : (D ++ L).length ≤ 100000) (hbase : base ≤ w.heap.size) :
    opTo Try.prog o a w fun v' w' => ∃ D' v1, TailOwn w' base v' D' (L ++ [e]) v1 ∧ Grew w w' v0 v1 := by
  obtain ⟨i0, hi, hz0, hz1, hz2⟩ := info_parts infoPk
  obtain ⟨hown, hc⟩ := hown
  have hnews : ∀ j u, (rowPk e)[j]? = some u → w.cell? ((⟨q, 0, none⟩ : Addr).add j) = some u := fun j u hj => by
    have e' : ((⟨q, 0, none⟩ : Addr).add j) = ⟨q, j, none⟩ := by unfold Addr.add; split <;> simp_all
    rw [e']; exact hr.1 j u hj
  have h1 : ∀ u ∈ rowPk e, u.oneCell' = true := fun u hu => Pk_one [e] u (by simpa using hu)
  rcases hc with ⟨rfl, rfl, rfl, rfl⟩ | ⟨g, cap, ad, rfl, rfl, had⟩
  · refine opTo_upO (Pk_app s x ho (L := []) hs hown hx hr (by simp) hbase) fun v' w' ⟨h2, h3⟩ => ?_
    obtain ⟨ao, c2, rfl⟩ := own_slice h3
    obtain ⟨g2, rfl⟩ := obPtr h3 (by simp)
    exact ⟨[], _, ⟨h3, .inr ⟨g2, c2, ⟨g2, 0, none⟩, by simp, rfl, fun _ => by simp⟩⟩, h2⟩
  have hown0 := hown
  have hlen : (D ++ L).length = D.length + L.length := List.length_append
  rcases hown.2 with ⟨h0, -⟩ | ⟨g', cap', cur, hv, hbg, hh, hle, hcap, hcs, htake⟩
  · cases h0
  simp only [Value.slice.injEq, Option.some.injEq, Addr.mk.injEq, and_true, true_and] at hv
  obtain ⟨rfl, rfl⟩ := hv
  by_cases hroom : L.length + 1 ≤ cap - D.length
  · obtain rfl := had (by omega)
    obtain ⟨v', w', hr', h2, h3, h4⟩ := run_append_at (P := Try.prog) w base 86 o.type 99 i0 _ 24 288 Try.underlying86 hi hz0 hz1 hz2 rfl (by decide) _ (D ++ L).length _ hown0 ⟨q, 0, none⟩ 1 1 (rowPk e) rfl hnews h1 (by unfold maxLen; omega) (by omega) hbase
    have hA := run_append_room (P := Try.prog) w 86 o.type 99 i0 Try.underlying86 hi g (D ++ L).length cap cur hh ⟨q, 0, none⟩ 1 1 (rowPk e) (by rw [hz1]; rfl) hnews h1 (by omega) (by rw [hz1, hcs]; show _ + 24 ≤ _; omega)
    have hB := append_roomO (P := Try.prog) w 86 o.type 99 i0 Try.underlying86 hi g (D.length * 24) L.length (cap - D.length) cur hh ⟨q, 0, none⟩ 1 1 (rowPk e) (by rw [hz1]; rfl) hnews h1 hroom (by rw [hz1, hcs]; show _ + 24 ≤ _; omega)
    rw [hA] at hr'
    injection hr' with e1 e2
    have hoff : D.length * 24 + L.length * i0.size = (D ++ L).length * i0.size := by rw [hz1, hlen]; omega
    rw [hoff, e2] at hB
    refine .inl ⟨_, w', ?_, D, v', ⟨?_, .inr ⟨g, cap, _, rfl, ?_, fun _ => rfl⟩⟩, (Grew.refl w _).app0 h3 h4⟩
    · unfold execOp
      simp only [ho, resolve, invoke, builtin, Sem.run_bind, Sem.run_pure, Result.andThen_ok, List.map_toArray, List.map_cons, List.map_nil, hs, hx, hB]
      rw [List.length_append]; rfl
    · unfold PkOwn
      rw [← List.append_assoc, show ((D ++ L) ++ [e]).length = (D ++ L).length + 1 from List.length_append, List.map_append, List.flatten_append, show ([e].map rowPk).flatten = rowPk e by simp]
      exact h2
    · rw [← e1, ← List.append_assoc, show ((D ++ L) ++ [e]).length = (D ++ L).length + 1 from List.length_append]
  · have hrow := obRowD hown0
    obtain ⟨v', w', hr', h2, h3⟩ := run_append_arg_grows (P := Try.prog) w 86 o.type 99 i0 _ 24 288 Try.underlying86 hi hz0 hz1 hz2 rfl (by decide) ad L.length (cap - D.length) ((L.map rowPk).flatten) (by rw [flatten_len _ (Pk_n L), List.length_map]) (fun j u hj => by
        obtain rfl := had (by have h5 : j < L.length * 24 := by have := (List.getElem?_eq_some_iff.1 hj).1; rwa [flatten_len _ (Pk_n L), List.length_map] at this
                              omega)
        have e' : ((⟨g, D.length * 24, none⟩ : Addr).add j) = ⟨g, D.length * 24 + j, none⟩ := by unfold Addr.add; split <;> simp_all
        rw [e']
        refine hrow.1 _ _ ?_
        rw [List.map_append, List.flatten_append, List.getElem?_append_right (by rw [flatten_len _ (Pk_n D), List.length_map]; omega), flatten_len _ (Pk_n D), List.length_map, Nat.add_sub_cancel_left]
        exact hj) ⟨q, 0, none⟩ 1 1 (rowPk e) rfl hnews (by omega) (by unfold maxLen; omega) (by omega)
    obtain ⟨ao, c2, rfl⟩ := own_slice h2
    obtain ⟨g2, rfl⟩ := obPtr h2 (by omega)
    have hg2 := (blk_lt h2 rfl).1
    refine .inl ⟨.slice (some ⟨g2, 0, none⟩) (L.length + 1) c2, w', ?_, [], .slice (some ⟨g2, 0, none⟩) (L.length + 1) c2, ⟨?_, .inr ⟨g2, c2, ⟨g2, 0, none⟩, ?_, ?_, fun _ => by simp⟩⟩, ⟨⟨h3.os, h3.tape, h3.output, h3.size, fun k hk _ => h3.block k hk (by simp)⟩, .inr ⟨g2, rfl, hg2⟩⟩⟩
    · unfold execOp
      simp only [ho, resolve, invoke, builtin, Sem.run_bind, Sem.run_pure, Result.andThen_ok, List.map_toArray, List.map_cons, List.map_nil, hs, hx, hr']
    · unfold PkOwn
      rw [List.nil_append, List.length_append, List.map_append, List.flatten_append, show ([e].map rowPk).flatten = rowPk e by simp]
      exact own_mono h2 hbase
    · simp
    · simp
/-- The first element is taken away. -/
theorem tail_cut {w : World} {base : Nat} {v v0 : Value} {D L : List EPk} {q : EPk} (h : TailOwn w base v D (q :: L) v0) :
    ∃ v', (Instr.sliceAt 86 v (some (.int .i64 1)) none none).run Try.prog w = .ok v' w ∧ TailOwn w base v' (D ++ [q]) L v0 := by
  obtain ⟨hown, hc⟩ := h
  rcases hc with ⟨rfl, rfl, hD, hL⟩ | ⟨g, cap, ad, rfl, rfl, had⟩
  · cases hL
  have e : (D ++ [q]) ++ L = D ++ (q :: L) := by simp
  have hle : D.length + (L.length + 1) ≤ cap := by
    rcases hown.2 with ⟨h0, -⟩ | ⟨g', cap', cur, hv, hbg, hh, hle, hcap, hcs, htake⟩
    · cases h0
    · injection hv with h1 h2 h3
      subst h3
      simpa using hle
  have hr := ro_slice_from (P := Try.prog) w 86 99 24 Try.underlying86 sizePk ad (q :: L).length (cap - D.length) 1 (by simp)
  refine ⟨_, hr, by rw [e]; exact hown, .inr ⟨g, cap, (if cap - D.length = 1 then ad else ad.add (1 * 24)), ?_, by rw [e], fun h0 => ?_⟩⟩
  · rw [List.length_append, List.length_cons]
    congr 1
  · rw [List.length_append, List.length_singleton] at h0 ⊢
    obtain rfl := had (by omega)
    rw [if_neg (by omega)]
    unfold Addr.add
    split
    · simp_all
    · simp; omega
/-- What waits, as it is read. -/
theorem TailOwn.slR {w : World} {base : Nat} {v v0 : Value} {D L : List EPk} {q : EPk} (h : TailOwn w base v D (q :: L) v0) : ∃ g n c, v = .slice (some ⟨g, D.length * 24, none⟩) n c ∧ n = L.length + 1 ∧ ∀ j u, (rowPk q)[j]? = some u → w.cell? ⟨g, D.length * 24 + j, none⟩ = some u := by
  obtain ⟨hown, hc⟩ := h
  rcases hc with ⟨rfl, rfl, hD, hL⟩ | ⟨g, cap, ad, rfl, rfl, had⟩
  · cases hL
  have hle : D.length + (L.length + 1) ≤ cap := by
    rcases hown.2 with ⟨h0, -⟩ | ⟨g', cap', cur, hv, hbg, hh, hle, hcap, hcs, htake⟩
    · cases h0
    · injection hv with h1 h2 h3
      subst h3
      simpa using hle
  obtain rfl := had (by omega)
  refine ⟨g, _, _, rfl, by simp, fun j u hj => ?_⟩
  have hrow := obRowD hown
  refine hrow.1 _ _ ?_
  rw [List.map_append, List.flatten_append, List.getElem?_append_right (by rw [flatten_len _ (Pk_n D), List.length_map]; omega), flatten_len _ (Pk_n D), List.length_map, Nat.add_sub_cancel_left, List.map_cons, List.flatten_cons, List.getElem?_append_left (List.getElem?_eq_some_iff.1 hj).1]
  exact hj
end Go.Proofs.Ytcglmkcefenjcaa
