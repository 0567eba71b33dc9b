/-
  Words of our own, of no program: the reckoner: copy, clear, the next byte of a text.
-/
import Derived.Test.YtlkchdbbpnkbfaaGreatDoorRkL
import Derived.Laws.RangeString
namespace Go.Rk
open Go.RowKit
variable {P : Program} {ev : Nat → Nat} {B : Nat} {ρ : Ren} {σ : Heap} {w : World}
theorem run_copy_src (w : World) (t tx ty e : TypeId) (i : TypeInfo) (ht : P.underlying t = some (.slice e)) (hi : P.info? e = some i) (b a n kk m : Nat) (cx : Value) (cs : List Value) (hlen : (Builtin.lenOf cx).run P w = .ok m w)
    (hc : (Builtin.firstCells i.size (min m n) cx).run P w = .ok cs.toArray w) (hth : w.there b a cs.length) (h1 : ∀ u ∈ cs, u.oneCell' = true) :
    (Builtin.copy_ #[t, tx] ty #[.slice (some ⟨b, a, none⟩) n kk, cx]).run P w = .ok (.int .i64 ((min m n : Nat) : Int)) (w.setCells b a cs) := by
  have hst := run_storeCells_cells (P := P) b a cs 0 w (fun j hj => by simpa using (hth j hj).1) (fun j hj => by simpa using (hth j hj).2) h1
  simp only [Nat.add_zero] at hst
  have hmin : m.min n = min m n := rfl
  simp [Builtin.copy_, run_underlying ht, sizeOf, typeInfo, hi, hlen, hmin, hc, hst, goInt]
theorem cop_inv {z : Nat} {s x : AV} {k : K2} (h : copK z s x σ k = true) : ∃ v σ', k v σ' = true ∧
    ∀ ρ w cs cx t tx ty e i, P.underlying t = some (.slice e) → P.info? e = some i → i.size = z → VR ev ρ s cs → VR ev ρ x cx → HR ev B σ ρ w →
      ∃ cv w', (Builtin.copy_ #[t, tx] ty #[cs, cx]).run P w = .ok cv w' ∧ Ext ρ σ ρ σ' ∧ VR ev ρ v cv ∧ HR ev B σ' ρ w' ∧ Below B w w' ∧ w'.heap.size = w.heap.size := by
  obtain ⟨m, nl, h1, hlen, hx⟩ := srcV_inv h
  clear h
  cases s <;> first | exact nomatch (show false = true from h1) | skip
  case nils =>
    refine ⟨_, _, h1, fun ρ w cs cx t tx ty e i ht hi hz hs hx' hr => ?_⟩
    subst hz
    obtain ⟨news, h2, h3, h4, h5, h6, h7, h8⟩ := src_cells (P := P) hlen hx hx' hr
    rw [hs.asNils]
    have := h8 0 (Nat.zero_le _)
    refine ⟨_, _, ?_, Ext.refl _ _, .i _ _, hr, Below.refl B w, rfl⟩
    have hmin : m.min 0 = 0 := Nat.min_zero m
    simp only [Nat.zero_mul, List.take_zero] at this
    simp [Builtin.copy_, run_underlying ht, sizeOf, typeInfo, hi, h5, this, goInt]
  case sl r o n c z' =>
    obtain ⟨g, h2⟩ := guard_inv (show guard_ (Nat.beq z' z) _ = true from h1)
    clear h1
    have hzz := Nat.eq_of_beq_eq_true g
    subst hzz
    have main : ∀ {q : Nat} {src : List AV} {mk : List AV → Row} {l : List AV}, q = min m n → src = nl.take (q * z') → q ≤ m → (mk = Row.ex ∨ mk = Row.gr) → σ.get r = mk l → o + src.length ≤ l.length →
        ∀ ρ w cs cx t tx ty e i, P.underlying t = some (.slice e) → P.info? e = some i → i.size = z' → VR ev ρ (.sl r o n c z') cs → VR ev ρ x cx → HR ev B σ ρ w →
        ∃ cv w', (Builtin.copy_ #[t, tx] ty #[cs, cx]).run P w = .ok cv w' ∧ Ext ρ σ ρ (σ.set r (mk (l.take o ++ src ++ l.drop (o + src.length)))) ∧ VR ev ρ (.i .i64 (q : Int)) cv ∧ HR ev B (σ.set r (mk (l.take o ++ src ++ l.drop (o + src.length)))) ρ w' ∧ Below B w w' ∧ w'.heap.size = w.heap.size := by
      intro q src mk l hq hsrc hqm hmk hl hin ρ w cs cx t tx ty e i ht hi hz hs hx' hr
      subst hz
      obtain ⟨news, h2, h3, h4, h5, h6, h7, h8⟩ := src_cells (P := P) hlen hx hx' hr
      obtain ⟨b, base, E, a, kk, hρ, rfl, hnk, ha, hE, hkn, hu⟩ := hs.asSl
      have hv : VRs ev ρ src (news.take (q * i.size)) := by rw [hsrc]; exact h2.take _
      have hv1 : ∀ u ∈ news.take (q * i.size), u.oneCell' = true := fun u hu => h4 u (List.mem_of_mem_take hu)
      obtain ⟨a1, a2, a3⟩ := hr.store hρ mk hmk hl hv hv1 hin
      have hset : w.setCells b (base + o) (news.take (q * i.size)) = w.setCells b a (news.take (q * i.size)) := by
        by_cases hk0 : kk = 0
        · have hq0 : q = 0 := by rw [hq]; have : n = 0 := by omega
                                 subst this; exact Nat.min_zero m
          subst hq0
          simp [World.setCells]
        · rw [ha hk0]
      have hth : w.there b a (news.take (q * i.size)).length := by
        by_cases hk0 : kk = 0
        · have hq0 : q = 0 := by rw [hq]; have : n = 0 := by omega
                                 subst this; exact Nat.min_zero m
          subst hq0
          intro j hj
          simp at hj
        · rw [ha hk0]; exact a3
      rw [hset] at a1 a2
      have := run_copy_src w t tx ty e i ht hi b a n kk m cx _ (h5 w) (by rw [← hq]; exact h8 q hqm) hth hv1
      rw [← hq] at this
      exact ⟨_, _, this, Ext.set hρ _, .i _ _, a1, a2, size_setCells' _ _ _ _⟩
    rcases iff_inv h2 with ⟨g1, h3⟩ | ⟨g1, h3⟩
    · obtain ⟨mk, l, hmk, hl, hin, h4⟩ := modW_inv h3
      have hmn : m ≤ n := Nat.le_of_ble_eq_true g1
      refine ⟨_, _, h4, main (q := m) (Nat.min_eq_left hmn).symm ?_ (Nat.le_refl _) hmk hl hin⟩
      rw [← hlen, List.take_length]
    · obtain ⟨hle, h4⟩ := takeL_inv h3
      obtain ⟨mk, l, hmk, hl, hin, h5⟩ := modW_inv h4
      have hmn : n ≤ m := by
        rcases Nat.le_total n m with h | h
        · exact h
        · rw [show Nat.ble m n = true from Nat.ble_eq_true_of_le h] at g1; cases g1
      exact ⟨_, _, h5, main (q := n) (Nat.min_eq_right hmn).symm rfl hmn hmk hl hin⟩
theorem clr_inv {z : Nat} {zs : List AV} {s : AV} {k : K2} (h : clrV s z zs σ k = true) : ∃ v σ', k v σ' = true ∧
    ∀ ρ w cs t ty e i zv, P.underlying t = some (.slice e) → P.info? e = some i → i.size = z → i.zero = some zv → zv.cells.size = z → zs = zv.cells.toList.map cS → zvOk zv = true → VR ev ρ s cs → HR ev B σ ρ w →
      ∃ cv w', (Builtin.clear_ #[t] ty #[cs]).run P w = .ok cv w' ∧ Ext ρ σ ρ σ' ∧ VR ev ρ v cv ∧ HR ev B σ' ρ w' ∧ Below B w w' ∧ w'.heap.size = w.heap.size := by
  cases s <;> first | exact nomatch (show false = true from h) | skip
  case nils =>
    refine ⟨_, _, h, fun ρ w cs t ty e i zv ht hi hz hzv hzs hl hok hs hr => ?_⟩
    rw [hs.asNils]
    refine ⟨_, _, ?_, Ext.refl _ _, .tu .nil, hr, Below.refl B w, rfl⟩
    simp [Builtin.clear_, run_underlying ht]
  case sl r o n c z' =>
    obtain ⟨g, h2⟩ := guard_inv (show guard_ (Nat.beq z' z) _ = true from h)
    clear h
    have hzz := Nat.eq_of_beq_eq_true g
    subst hzz
    rw [repK_eq] at h2
    obtain ⟨mk, l, hmk, hl, hin, h3⟩ := modW_inv h2
    refine ⟨_, _, h3, fun ρ w cs t ty e i zv ht hi hz hzv hzs hlz hok hs hr => ?_⟩
    subst hz
    subst hlz
    obtain ⟨b, base, E, a, kk, hρ, rfl, hnk, ha, hE, hkn, hu⟩ := hs.asSl
    have hzc := zvOk_cells hok ev ρ
    have h1z : ∀ c ∈ (List.replicate n zv.cells.toList).flatten, c.oneCell' = true := fun c hc => by
      obtain ⟨l, hl, hcl⟩ := List.mem_flatten.1 hc
      rw [(List.mem_replicate.1 hl).2] at hcl
      exact hzc.2 c hcl
    obtain ⟨a1, a2, a3⟩ := hr.store hρ mk hmk hl (hzc.1.rep n) h1z hin
    have hzl : zv.cells.toList.length = i.size := by rw [Array.length_toList]; exact hzs
    have hcells : (Builtin.zeroCells zv.cells n).toList = (List.replicate n zv.cells.toList).flatten := by
      have := made_flatten zv.cells.toList n
      have e1 : zv.cells.toList.toArray = zv.cells := by simp
      rw [e1] at this
      unfold Builtin.zeroCells
      rw [hzl, ← hzs] at this
      rw [this]
    by_cases hn0 : n = 0
    · subst hn0
      refine ⟨.tuple #[], w, by simp [Builtin.clear_, run_underlying ht], Ext.set hρ _, .tu .nil, ?_, Below.refl B w, rfl⟩
      simpa [World.setCells] using a1
    · have hab : a = base + o := ha (by omega)
      subst hab
      have hst := run_storeCells_cells (P := P) b (base + o) (List.replicate n zv.cells.toList).flatten 0 w (fun j hj => by simpa using (a3 j hj).1) (fun j hj => by simpa using (a3 j hj).2) h1z
      simp only [Nat.add_zero] at hst
      refine ⟨.tuple #[], _, ?_, Ext.set hρ _, .tu .nil, a1, a2, size_setCells' _ _ _ _⟩
      obtain ⟨q, rfl⟩ : ∃ q, n = q + 1 := ⟨n - 1, by omega⟩
      have hv : ∀ w, (zeroValue e).run P w = .ok zv w := fun w => by simp [zeroValue, typeInfo, hi, hzv]
      simp [Builtin.clear_, run_underlying ht, hv, hcells, hst]
/-- A block becomes another. -/
theorem HR.setIter (h : HR ev B σ ρ w) {r : Id} {b base E p p' : Nat} {l : List Nat} {s : ByteArray} (hρ : ρ r = some (b, base, E)) (hg : σ.get r = .it l p) (hs : byteNs s = l) (hb : w.heap[b]? = some (.stringIter s p)) :
    HR ev B (σ.set r (.it l p')) ρ { w with heap := w.heap.setIfInBounds b (.stringIter s p') } ∧ Below B w { w with heap := w.heap.setIfInBounds b (.stringIter s p') } := by
  obtain ⟨h1, h2, h3, h4⟩ := h.row r b base E hρ
  have hne : ∀ k, k ≠ b → (w.heap.setIfInBounds b (.stringIter s p'))[k]? = w.heap[k]? := fun k hk => by rw [Array.getElem?_setIfInBounds_ne (Ne.symm hk)]
  have hE : E = 0 := by
    rcases Nat.eq_zero_or_pos E with h0 | h0
    · exact h0
    · have := (h3 0 h0).1
      simp [World.cell?, hb] at this
  have hcell : ∀ b' o', ({ w with heap := w.heap.setIfInBounds b (.stringIter s p') } : World).cell? ⟨b', o', none⟩ = w.cell? ⟨b', o', none⟩ := fun b' o' => by
    by_cases e : b' = b
    · subst e
      have e1 : (w.heap.setIfInBounds b' (Obj.stringIter s p'))[b']? = some (.stringIter s p') := by simp [h2]
      simp only [World.cell?]
      rw [e1, hb]
    · simp [World.cell?, hne b' e]
  have hfro : ∀ b' o', ({ w with heap := w.heap.setIfInBounds b (.stringIter s p') } : World).frozen? ⟨b', o', none⟩ = w.frozen? ⟨b', o', none⟩ := fun b' o' => by
    by_cases e : b' = b
    · subst e
      have e1 : (w.heap.setIfInBounds b' (Obj.stringIter s p'))[b']? = some (.stringIter s p') := by simp [h2]
      simp only [World.frozen?]
      rw [e1, hb]
    · simp [World.frozen?, hne b' e]
  refine ⟨h.setRow hρ (by rw [hg]; simp) (by simp) (fun b o n ht j hj => by rw [hcell, hfro]; exact ht j hj) (fun b' hb' => ⟨fun o cs hc j v hv => by rw [hcell]; exact hc j v hv, hne b' hb'⟩) ⟨s, hs, by simp [h2], ?_⟩, ⟨rfl, rfl, rfl, by simp, fun k hk => hne k (by omega)⟩⟩
  rw [hg] at h4
  obtain ⟨s', _, _, h0⟩ := h4
  exact h0
theorem next_inv {r : Id} {k : K2} (h : nextK r σ k = true) : ∃ v σ', k v σ' = true ∧
    ∀ ρ w b base E ty, ρ r = some (b, base, E) → HR ev B σ ρ w →
      ∃ cv w', (Instr.next (.pointer (some ⟨b, base + 0, none⟩)) true ty).run P w = .ok cv w' ∧ Ext ρ σ ρ σ' ∧ VR ev ρ v cv ∧ HR ev B σ' ρ w' ∧ Below B w w' ∧ w'.heap.size = w.heap.size := by
  unfold nextK at h
  generalize hg : σ.get r = row at h
  cases row with
  | dead => exact nomatch (show false = true from h)
  | ex l => exact nomatch (show false = true from h)
  | gr l => exact nomatch (show false = true from h)
  | it l p =>
    have h1 := h
    clear h
    dsimp only at h1
    rw [lenN_eq] at h1
    rcases iff_inv h1 with ⟨g1, h2⟩ | ⟨g1, h2⟩
    · obtain ⟨b, hb, h3⟩ := getN_inv h2
      obtain ⟨g2, h4⟩ := guard_inv h3
      rw [forceN_eq, Heap.mod_eq] at h4
      refine ⟨_, _, h4, fun ρ w blk base E ty hρ hr => ?_⟩
      have hrow := (hr.row r blk base E hρ).2.2.2
      rw [hg] at hrow
      obtain ⟨s, hs, hw, rfl⟩ := hrow
      obtain ⟨q1, q2⟩ := hr.setIter (p' := p.succ) hρ hg hs hw
      have hlt : p < s.size := by have := Nat.le_of_ble_eq_true g1; rw [← hs, byteNs_size] at this; exact this
      have hbb : (s[p]'hlt).toNat = b := by
        rw [← hs] at hb
        unfold byteNs at hb
        rw [List.getElem?_map] at hb
        obtain ⟨u, hu, rfl⟩ := Option.map_eq_some_iff.1 hb
        rw [Array.getElem?_toList] at hu
        obtain ⟨_, hu⟩ := Array.getElem?_eq_some_iff.1 hu
        rw [← hu]; rfl
      have hb128 : (s[p]'hlt).toNat < 128 := by have := Nat.le_of_ble_eq_true g2; omega
      refine ⟨.tuple #[.bool true, .int .i64 (p : Int), .int .i32 ((s[p]'hlt).toNat : Int)], _, ?_, Ext.set hρ _, .tu (.cons (.b true) (.cons (.i _ _) (.cons ?_ .nil))), q1, q2, by simp⟩
      · simp only [Instr.next, getObj, setObj, Sem.run_bind, Sem.run, hw, Result.andThen, hlt, if_true, decode_ascii s p hlt hb128]
        simp [goInt]
      · rw [hbb]; exact .i _ _
    · refine ⟨_, _, h2, fun ρ w blk base E ty hρ hr => ?_⟩
      have hrow := (hr.row r blk base E hρ).2.2.2
      rw [hg] at hrow
      obtain ⟨s, hs, hw, rfl⟩ := hrow
      have hlt : ¬ p < s.size := fun hlt => by
        rw [show Nat.ble (Nat.succ p) l.length = true from Nat.ble_eq_true_of_le (by rw [← hs, byteNs_size]; exact hlt)] at g1; cases g1
      refine ⟨.tuple #[.bool false], w, ?_, Ext.refl _ _, .tu (.cons (.b false) .nil), hr, Below.refl B w, rfl⟩
      simp [Instr.next, getObj, Sem.run, hw, hlt]
end Go.Rk
