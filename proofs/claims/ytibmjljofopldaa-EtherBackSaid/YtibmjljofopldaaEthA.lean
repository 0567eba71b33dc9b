/-
  Frames: ether.Bytes; an append of all of a slice to a row of one's own.
-/
import Derived.Test.YtibmjljofopldaaNum
import Derived.Test.YtibmjljofopldaaClone
import Derived.Test.YtibmjljofopldaaRead
import Derived.Laws.AppendOwnNone
import Derived.Deep.RegionHeld3
namespace Go.Proofs.Ytibmjljofopldaa
open Go.RowKit
theorem B8_one (l : List UInt8) : ∀ u ∈ l.map B8, u.oneCell' = true := by
  intro u hu; simp only [List.mem_map] at hu; obtain ⟨x, -, rfl⟩ := hu; rfl
/-- The cells of a slice's bytes are one each; an append of all of a slice to a row of our own. -/
theorem appendAll {P : Program} {w : World} {ops : Array Oper} {rest : List Oper} {o : Oper} {a : Act} {Q : Exit → Act → World → Prop} (hgd : o.guard = none) (s x : Operand) (t e : TypeId)
    (ho : o.op = .call { callee := .builtin .append, args := #[s, x], argTypes := #[t, t] }) (base : Nat) (i : TypeInfo) (ht : P.underlying t = some (.slice e)) (hi : P.info? e = some i) (hz : i.zero = some (.int .u8 0))
    (hsize : i.size = 1) (hby : i.bytes = 1) (v : Value) (n : Nat) (xs l : List UInt8) (hs : a.eval s = v) (hown : w.ownsRow base e 1 v n (xs.map B8)) (vx : Value) (hx : a.eval x = vx) (hl : Sl w vx l)
    (hb1 : n ≤ 100000000) (hb2 : l.length ≤ 100000000) (hbase : base ≤ w.heap.size)
    (h : ∀ v' w', w'.ownsRow base e 1 v' (n + l.length) ((xs ++ l).map B8) → Grew w w' v v' → wpList P ops Q rest (a.put o.dst v') w') : wpList P ops Q (o :: rest) a w := by
  obtain ⟨ao, cap, rfl, h1, h2, h3, h4⟩ := id hl
  cases ao with
  | none =>
    have hc := h3 rfl
    have hl0 : l = [] := List.eq_nil_of_length_eq_zero (by omega)
    subst hl0 hc
    exact wpList_append_own_none hgd s x t ho base e i 1 ht hi v n (xs.map B8) hs hown hx (h v w (by simpa using hown) (Grew.refl _ _))
  | some ad =>
    refine wpList_append_at w hgd s x t ho base e i (.int .u8 0) 1 1 ht hi hz hsize hby rfl (by decide) v n (xs.map B8) hs hown ad l.length cap (l.map B8) hx (by simp) hl.news (B8_one l) (by unfold maxLen; omega) (by omega) hbase ?_
    intro v' w' ho2 hg hat
    exact h v' w' (by rw [List.map_append]; exact ho2) ((Grew.refl w v).app0 hg hat)
structure Fr where
  dst : Int
  src : Int
  ty : Int
  data : List UInt8
def frOk (f : Fr) : Prop := (0 ≤ f.dst ∧ f.dst < 281474976710656) ∧ (0 ≤ f.src ∧ f.src < 281474976710656) ∧ (0 ≤ f.ty ∧ f.ty < 65536) ∧ f.data.length ≤ 1500
def frBytes (f : Fr) : List UInt8 := bigv f.dst 6 ++ bigv f.src 6 ++ bigv f.ty 2 ++ f.data
set_option maxRecDepth 100000 in
set_option maxHeartbeats 4000000 in
theorem ethBytes_ok (f : Fr) (ao : Option Addr) (cap : Nat) (w : World) (hf : frOk f) (hd : Sl w (.slice ao f.data.length cap) f.data) :
    Calls Try.prog 38 #[.agg #[.int .i64 f.dst, .int .i64 f.src, .int .i64 f.ty, .slice ao f.data.length cap]] w fun e w' => ∃ v', e = .returned (.tuple #[v', .int .i64 0]) ∧ Below w.heap.size w w' ∧ w'.ownsRow w.heap.size 5 1 v' (frBytes f).length ((frBytes f).map B8) := by
  obtain ⟨⟨h1, h2⟩, ⟨h3, h4⟩, ⟨h5, h6⟩, h7⟩ := hf
  have HD := Lib.hid hd; clear hd
  obtain ⟨i0, hi, hz0, hz1, hz2⟩ := info_parts infoU8
  go_enter Try.func38, Try.ntmps38
  go_wp2_with fail
  refine wp_scope_end rfl rfl fun J' HJ => ?_
  refine wpSpine_seq rfl fun K hK => ?_
  go_wp2
  refine wpSpine_seq rfl fun K hK => ?_
  go_wp2
  refine wpSpine_seq rfl fun K hK => ?_
  go_wp2
  refine wpSpine_seq rfl fun K hK => ?_
  go_wp2
  refine wpSpine_seq rfl fun K hK => ?_
  go_wp2_with fail
  refine (numApp_k w.heap.size 0 _ [] _ 6 _ _ rfl (World.ownsRow_nil _ _ _ _) (by omega) (by omega) (by simp)).mono ?_
  rintro e w1 ⟨v1, rfl, hg1, ho1⟩
  have hb1 := grew_nil hg1
  have hc1 : w1.cell? ⟨w.heap.size, 1, none⟩ = some (.int .i64 f.src) := (hb1.cell (p := ⟨w.heap.size, 1, none⟩) (by simp)).trans (by simp [go_sem])
  have hs1 := hg1.1.size
  go_wp2_with fail
  refine wpSpine_seq rfl fun K hK => ?_
  go_wp2_with fail
  refine (numApp_k w.heap.size _ _ (bigv f.dst 6) _ 6 _ _ rfl (by simpa using ho1) (by omega) (by omega) (by simp at hs1; omega)).mono ?_
  rintro e w2 ⟨v2, rfl, hg2, ho2⟩
  have hg2' := hg1.trans hg2
  have hb2 := grew_nil hg2'
  have hc2 : w2.cell? ⟨w.heap.size, 2, none⟩ = some (.int .i64 f.ty) := (hb2.cell (p := ⟨w.heap.size, 2, none⟩) (by simp)).trans (by simp [go_sem])
  have hs2 := hg2'.1.size
  clear hg1 hg2 hb1 hb2 hc1 ho1 hs1
  go_wp2_with fail
  refine wpSpine_seq rfl fun K hK => ?_
  go_wp2_with fail
  refine (numApp_k w.heap.size _ _ _ _ 2 _ _ rfl ho2 (by omega) (by omega) (by simp at hs2; omega)).mono ?_
  rintro e w3 ⟨v3, rfl, hg3, ho3⟩
  have hg3' := hg2'.trans hg3
  have hb3 := grew_nil hg3'
  have hc3 : w3.cell? ⟨w.heap.size, 3, none⟩ = some (.slice ao f.data.length cap) := (hb3.cell (p := ⟨w.heap.size, 3, none⟩) (by simp)).trans (by simp [go_sem])
  have hs3 := hg3'.1.size
  have hbx : Below w.heap.size w w3 := Below.trans ((Below.refl _ w).alloc (Nat.le_refl _) _) (hb3.mono (by simp))
  have HD3 := Lib.hid (HD.out.below hbx)
  clear hg2' hg3 hb3 hc2 ho2 hs2 HD
  go_wp2_with fail
  refine wpSpine_seq rfl fun K hK => ?_
  go_wp2_with (at_builtin; refine appendAll rfl _ _ 34 5 rfl w.heap.size i0 Try.underlying34 hi hz0 hz1 hz2 _ _ _ f.data rfl ho3 _ rfl HD3.out (by omega) (by omega) (by simp at hs3; omega) ?_; intro v4 w4 ho4 hg4)
  have hbl : Below w.heap.size w w4 := Below.trans ((Below.refl _ w).alloc (Nat.le_refl _) _) ((grew_nil (hg3'.trans hg4)).mono (by simp))
  have hct : 0 + 6 + 6 + 2 + f.data.length = (frBytes f).length := by simp [frBytes, bigv_length]; omega
  have ho5 : w4.ownsRow w.heap.size 5 1 v4 (frBytes f).length ((frBytes f).map B8) := by rw [← hct]; simpa [frBytes, List.append_assoc] using ho4
  clear ho4 hct ho3 hg3' hg4 hbx HD3 hs3 hc3
  refine wpSpine_seq rfl fun K hK => ?_
  go_wp2
  refine wpSpine_label (HJ _ _ ?_)
  go_wp2
  rw [Exit.noGoto_ret]
  go_ret2
  exact ⟨v4, rfl, hbl, ho5⟩
set_option maxRecDepth 100000 in
set_option maxHeartbeats 4000000 in
theorem ethBytes_bad (d s t : Int) (ao : Option Addr) (len cap : Nat) (w : World) (hf : d < 0 ∨ 281474976710656 ≤ d ∨ s < 0 ∨ 281474976710656 ≤ s ∨ t < 0 ∨ 65536 ≤ t ∨ 1500 < len) (hl : len ≤ 9223372036854775807) :
    Calls Try.prog 38 #[.agg #[.int .i64 d, .int .i64 s, .int .i64 t, .slice ao len cap]] w fun e w' => e = .returned (.tuple #[.slice none 0 0, .int .i64 1]) ∧ Below w.heap.size w w' := by
  have hc : d < 0 ∨ (0 ≤ d ∧ 281474976710656 ≤ d) ∨ (0 ≤ d ∧ d < 281474976710656 ∧ s < 0) ∨ (0 ≤ d ∧ d < 281474976710656 ∧ 0 ≤ s ∧ 281474976710656 ≤ s) ∨
      (0 ≤ d ∧ d < 281474976710656 ∧ 0 ≤ s ∧ s < 281474976710656 ∧ t < 0) ∨ (0 ≤ d ∧ d < 281474976710656 ∧ 0 ≤ s ∧ s < 281474976710656 ∧ 0 ≤ t ∧ 65536 ≤ t) ∨
      (0 ≤ d ∧ d < 281474976710656 ∧ 0 ≤ s ∧ s < 281474976710656 ∧ 0 ≤ t ∧ t < 65536 ∧ 1500 < len) := by omega
  clear hf
  rcases hc with h1 | h1 | h1 | h1 | h1 | h1 | h1
  all_goals
    try (obtain ⟨h1, h2⟩ := h1)
    try (obtain ⟨h2, h3⟩ := h2)
    try (obtain ⟨h3, h4⟩ := h3)
    try (obtain ⟨h4, h5⟩ := h4)
    try (obtain ⟨h5, h6⟩ := h5)
    try (obtain ⟨h6, h7⟩ := h6)
    go_enter Try.func38, Try.ntmps38
    go_wp2_with fail
    refine wp_scope_end rfl rfl fun J' HJ => ?_
    repeat' (first
      | (refine wpSpine_label (HJ _ _ ?_))
      | (refine wpSpine_seq rfl fun K hK => ?_; go_wp2)
      | (refine wp_goto (HJ _ _ ?_)))
    go_wp2
    rw [Exit.noGoto_ret]
    go_ret2
    exact ⟨rfl, (Below.refl _ w).alloc (Nat.le_refl _) _⟩
end Go.Proofs.Ytibmjljofopldaa
