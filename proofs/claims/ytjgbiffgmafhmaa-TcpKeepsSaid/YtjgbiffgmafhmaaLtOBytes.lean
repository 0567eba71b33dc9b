/-
  Bytes that are copied and compared: CopyBytes and EqBytes of the statements' helpers; a row of bytes of one's own.
-/
import Derived.Test.YtjgbiffgmafhmaaLtOBase
namespace Go.Proofs.Ytjgbiffgmafhmaa
open Go.RowKit
theorem infoU8 : (Try.prog.info? 5).map (fun i => (i.zero, i.size, i.bytes)) = some (some (.int .u8 0), 1, 1) := by kernel_rfl
set_option maxRecDepth 100000 in
set_option maxHeartbeats 1000000 in
theorem copyBytes_any (v : Value) (l : List UInt8) (w : World) (hl : l.length ≤ 1000000) (hv : Sl w v l) :
    Calls Try.prog 19 #[v] w fun e w' => ∃ v', e = .returned v' ∧ Below w.heap.size w w' ∧ w'.ownsRow w.heap.size 5 1 v' l.length (l.map B8) := by
  obtain ⟨ao, cap, rfl, hcl, hcm, -, hB⟩ := hv
  have HB := Lib.hid hB; clear hB
  obtain ⟨i0, hi, hz0, hz1, hz2⟩ := info_parts infoU8
  go_enter Try.func19, Try.ntmps19
  go_wp2
  go_loopw [3, 4] (fun m i wr => ∃ (k : Nat), k ≤ l.length ∧ i = .int .i64 k ∧ Below w.heap.size w wr ∧ wr.ownsRow w.heap.size 5 1 m k ((l.take k).map B8)) (fun _ i _ => l.length - (intOf i).toNat)
  case atStart => exact ⟨0, by omega, rfl, Below.refl _ _, World.ownsRow_nil _ _ _ _⟩
  case round =>
    obtain ⟨k, hk, rfl, hbl, hown⟩ := hrel
    by_cases hlt : k < l.length
    · obtain ⟨b, off, rfl, hbw, hBB⟩ := HB.out (by intro h; simp [h] at hlt)
      obtain ⟨x, hx, hcx, hx1⟩ := hBB.get k hlt
      have hcx' := (hbl.cell (p := ⟨b, off + k, none⟩) hbw).trans hcx
      have HX := Lib.hid hx; clear hx hBB hcx
      have hsz := hbl.size
      go_wp2_with (first
        | (at_builtin; refine wpList_append_own _ rfl _ _ 34 rfl w.heap.size 5 i0 (.int .u8 0) 1 1 Try.underlying34 hi hz0 hz1 hz2 rfl (by decide) _ _ _ rfl (hown.alloc _) ⟨wr.heap.size, 0, none⟩ 1 1 [B8 x] rfl rfl ?c1 ?c2 ?c3 ?c4 ?c5 ?_))
      case c1 =>
        intro j u hj
        match j, hj with
        | 0, hj => simp at hj; subst hj; simp [Addr.add]
      case c2 => intro u hu; simp at hu; subst hu; rfl
      case c3 => unfold maxLen; omega
      case c4 => omega
      case c5 => simp; omega
      intro v' w1 hown' hgrow _
      have hb2 : Below w.heap.size w w1 := (hbl.alloc hbl.size _).grown hgrow (by simp; omega) (by intro k hk; exact (hown.lt k hk).1)
      have ho2 : w1.ownsRow w.heap.size 5 1 v' (k + 1) ((l.take (k+1)).map B8) := by
        rw [List.take_succ_eq_append_getElem (by omega), List.map_append]
        have : l[k] = x := by have := HX.out; rw [List.getElem?_eq_getElem hlt] at this; simpa using this
        rw [this, List.map_take]; exact hown'
      clear hown' hgrow hown HX
      go_wp2
      go_roundw
      case rel => exact ⟨k + 1, by omega, by go_num, hb2, ho2⟩
      case measure => simp [intOf]; omega
    · have : k = l.length := by omega
      subst this
      rw [List.take_length] at hown
      clear HB
      go_wp2
      go_ret
      exact ⟨_, rfl, hbl, hown⟩
/-- A row of bytes of our own, whole. -/
def Own (w : World) (g : Nat) (l : List UInt8) : Prop := ∃ cur, w.heap[g]? = some (.cells cur 5 (0, 0)) ∧ l.length ≤ cur.size ∧ cur.toList.take l.length = l.map B8
theorem Own.free {w : World} {g : Nat} {l : List UInt8} (h : Own w g l) (k : Nat) : w.frozen? ⟨g, k, none⟩ = false := by
  obtain ⟨cur, hh, _⟩ := h
  simp [World.frozen?, hh]
theorem Own.lt {w : World} {g : Nat} {l : List UInt8} (h : Own w g l) : g < w.heap.size := by
  obtain ⟨cur, hh, _⟩ := h
  rcases Nat.lt_or_ge g w.heap.size with h | h
  · exact h
  · rw [Array.getElem?_eq_none h] at hh; simp at hh
theorem Own.set {w : World} {g : Nat} {l : List UInt8} (h : Own w g l) (k : Nat) (x : UInt8) : Own (w.setCell ⟨g, k, none⟩ (.int .u8 (x.toNat : Int))) g (l.set k x) := by
  obtain ⟨cur, hh, hsz, ht⟩ := h
  refine ⟨cur.setIfInBounds k (B8 x), ?_, by simpa using hsz, ?_⟩
  · simp [World.setCell, Array.getElem?_modify, hh]
  · simp only [List.length_set, Array.toList_setIfInBounds, List.map_set]
    rw [← ht, List.take_set]
theorem Own.congr {w w' : World} {g : Nat} {l : List UInt8} (h : Own w g l) (he : w'.heap[g]? = w.heap[g]?) : Own w' g l := by
  obtain ⟨cur, hh, r⟩ := h
  exact ⟨cur, by rw [he]; exact hh, r⟩
theorem Own.drew {w : World} {g : Nat} {l : List UInt8} (h : Own w g l) : Own w.drew g l := h
/-- The bytes of a slice, where it leads: for an append of all of it. -/
theorem Sl.news {w : World} {ad : Addr} {cap : Nat} {l : List UInt8} (h : Sl w (.slice (some ad) l.length cap) l) : ∀ j u, (l.map B8)[j]? = some u → w.cell? (ad.add j) = some u := by
  obtain ⟨ao, c, hv, h1, h2, h3, h4⟩ := h
  simp only [Value.slice.injEq] at hv
  obtain ⟨rfl, -, rfl⟩ := hv
  intro j u hj
  simp only [List.getElem?_map, Option.map_eq_some_iff] at hj
  obtain ⟨x, hx, rfl⟩ := hj
  have hne : l ≠ [] := by intro h; subst h; simp at hx
  obtain ⟨b, off, he, hb, hB⟩ := h4 hne
  injection he with he
  subst he
  have := hB j x hx
  unfold Addr.add
  split
  · rename_i h0; subst h0; simpa using this
  · exact this
end Go.Proofs.Ytjgbiffgmafhmaa
