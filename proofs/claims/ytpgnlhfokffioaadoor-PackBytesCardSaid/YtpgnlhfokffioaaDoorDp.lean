/-
  Lists of elements with bytes of their own: read, owned, made longer, written over.
-/
import Derived.Test.YtpgnlhfokffioaaDoorOwn
import Derived.Test.YtpgnlhfokffioaaDoorList
import Derived.Laws.BitsAllLaws
import Derived.Deep.RegionWith
namespace Go.Proofs.YtpgnlhfokffioaaDoor
open Go.RowKit
/-- Elements with bytes: their cells, and the bytes. -/
structure DK (α : Type) where
  n : Nat
  row : α → Value → List Value
  dat : α → List UInt8
  pos : 0 < n
  len : ∀ a v, (row a v).length = n
  one : ∀ a v, v.oneCell' = true → ∀ u ∈ row a v, u.oneCell' = true
/-- An element, at its cells. -/
def DK.At {α : Type} (K : DK α) (w : World) (b off : Nat) (a : α) : Prop := ∃ v, Sl w v (K.dat a) ∧ ∀ j u, (K.row a v)[j]? = some u → w.cell? ⟨b, off + j, none⟩ = some u
theorem DK.At.below {α : Type} {K : DK α} {w w' : World} {b off : Nat} {a : α} (h : K.At w b off a) (hb : Below w.heap.size w w') (hlt : b < w.heap.size) : K.At w' b off a := by
  obtain ⟨v, hs, hc⟩ := h
  exact ⟨v, hs.below hb, fun j u hj => (hb.cell (p := ⟨b, off + j, none⟩) hlt).trans (hc j u hj)⟩
def DK.Sl {α : Type} (K : DK α) (w : World) (v : Value) (L : List α) : Prop := SlOf w K.n K.At v L
theorem DK.Sl.below {α : Type} {K : DK α} {w w' : World} {v : Value} {L : List α} (h : K.Sl w v L) (hb : Below w.heap.size w w') : K.Sl w' v L := by
  obtain ⟨ao, cap, rfl, h1, h2, h3, h4⟩ := h
  refine ⟨ao, cap, rfl, h1, h2, h3, fun hne => ?_⟩
  obtain ⟨b, off, rfl, hlt, hq⟩ := h4 hne
  exact ⟨b, off, rfl, Nat.lt_of_lt_of_le hlt hb.size, fun i q hi => (hq i q hi).below hb hlt⟩
theorem DK.Sl.nil {α : Type} (K : DK α) (w : World) : K.Sl w (.slice none 0 0) [] := ⟨none, 0, rfl, Nat.le_refl _, Nat.zero_le _, fun _ => rfl, fun h => (h rfl).elim⟩
theorem blk_lt {w : World} {base e size n k : Nat} {v : Value} {xs : List Value} (h : w.ownsRow base e size v n xs) (hk : v.ownBlock = some k) : base ≤ k ∧ k < w.heap.size := by
  rcases h.2 with ⟨rfl, -⟩ | ⟨g, cap, cur, rfl, hb, hh, -⟩
  · simp [Value.ownBlock] at hk
  · simp [Value.ownBlock] at hk; subst hk
    refine ⟨hb, ?_⟩
    rcases Nat.lt_or_ge g w.heap.size with h | h
    · exact h
    · rw [Array.getElem?_eq_none h] at hh; simp at hh
theorem own_stay {w w' : World} {base e size n : Nat} {v : Value} {xs : List Value} {r : Option Nat} (h : w.ownsRow base e size v n xs) (hg : w.grownBy w' r) (hn : ∀ k, v.ownBlock = some k → some k ≠ r) : w'.ownsRow base e size v n xs := by
  refine ⟨h.1, ?_⟩
  rcases h.2 with h1 | ⟨g, cap, cur, rfl, hb, hh, h2⟩
  · exact .inl h1
  · have hlt : g < w.heap.size := by
      rcases Nat.lt_or_ge g w.heap.size with h | h
      · exact h
      · rw [Array.getElem?_eq_none h] at hh; simp at hh
    exact .inr ⟨g, cap, cur, rfl, hb, by rw [hg.block g hlt (hn g rfl)]; exact hh, h2⟩
/-- A list of our own, each element's bytes in a block of their own. -/
structure DOwn {α : Type} (K : DK α) (t : TypeId) (w : World) (base : Nat) (v : Value) (L : List (α × Value)) : Prop where
  row : w.ownsRow base t K.n v L.length (L.map (fun q => K.row q.1 q.2)).flatten
  dat : ∀ q ∈ L, w.ownsRow base 5 1 q.2 (K.dat q.1).length ((K.dat q.1).map B8)
  ne : ∀ q ∈ L, ∀ k, q.2.ownBlock = some k → v.ownBlock ≠ some k
  two : L.Pairwise fun p q => ∀ k, p.2.ownBlock = some k → q.2.ownBlock ≠ some k
section
variable {α : Type} {K : DK α} {t : TypeId} {w w' : World} {base : Nat} {v : Value} {L : List (α × Value)}
theorem DOwn.below (h : DOwn K t w base v L) (hb : Below w.heap.size w w') : DOwn K t w' base v L := ⟨below_own h.row hb, fun q hq => below_own (h.dat q hq) hb, h.ne, h.two⟩
theorem DOwn.nil (K : DK α) (t : TypeId) (w : World) (base : Nat) : DOwn K t w base (.slice none 0 0) [] := ⟨World.ownsRow_nil _ _ _ _, fun q h => by simp at h, fun q h => by simp at h, .nil⟩
theorem DOwn.mono {base' : Nat} (h : DOwn K t w base v L) (hb : base' ≤ base) : DOwn K t w base' v L := ⟨own_mono h.row hb, fun q hq => own_mono (h.dat q hq) hb, h.ne, h.two⟩
theorem DOwn.slice (h : DOwn K t w base v L) : ∃ ao cap, v = .slice ao L.length cap := own_slice h.row
theorem rows_len (K : DK α) (L : List (α × Value)) : ∀ r ∈ L.map (fun q => K.row q.1 q.2), r.length = K.n := by intro r hr; obtain ⟨y, -, rfl⟩ := List.mem_map.1 hr; exact K.len _ _
theorem DOwn.of (h : DOwn K t w base v L) : K.Sl w v (L.map Prod.fst) := by
  obtain ⟨ao, cap, hv, h1, h2, h3, h4⟩ := (SlR.of_own K.pos (rows_len K L) h.row).1
  rw [List.length_map] at hv h1
  refine ⟨ao, cap, by rw [List.length_map]; exact hv, by rw [List.length_map]; exact h1, h2, h3, fun hne => ?_⟩
  obtain ⟨b, off, rfl, hlt, hB⟩ := h4 (by simpa using hne)
  refine ⟨b, off, rfl, hlt, fun i a hi => ?_⟩
  rw [List.getElem?_map] at hi
  obtain ⟨q, hq, rfl⟩ := Option.map_eq_some_iff.1 hi
  exact ⟨q.2, (Sl.of_own (h.dat q (List.mem_of_getElem? hq))).1, fun j u hj => hB i _ (by rw [List.getElem?_map, hq]; rfl) j u hj⟩
theorem DOwn.snoc {W1 W2 W3 : World} {v' d : Value} {a : α} (h : DOwn K t W1 base v L) (hbase : base ≤ W1.heap.size) (hb : Below W1.heap.size W1 W2) (hd : W2.ownsRow W1.heap.size 5 1 d (K.dat a).length ((K.dat a).map B8))
    (ho : W3.ownsRow base t K.n v' (L.length + 1) ((L.map (fun q => K.row q.1 q.2)).flatten ++ K.row a d)) (hg : Grew W2 W3 v v') : DOwn K t W3 base v' (L ++ [(a, d)]) := by
  have hlow : ∀ k, v.ownBlock = some k → k < W1.heap.size := fun k hk => (blk_lt h.row hk).2
  have hnew : ∀ k, d.ownBlock = some k → W1.heap.size ≤ k ∧ k < W2.heap.size := fun k hk => blk_lt hd hk
  have hv' : ∀ k, v'.ownBlock = some k → v.ownBlock = some k ∨ W2.heap.size ≤ k := fun k hk => by
    rcases hg.2 with h1 | ⟨k', h1, hle⟩
    · exact .inl (h1.symm.trans hk)
    · rw [hk] at h1; injection h1 with h1; exact .inr (by omega)
  have hs := hb.size
  refine ⟨?_, fun q hq => ?_, fun q hq k hk e => ?_, ?_⟩
  · simpa using ho
  · rcases List.mem_append.1 hq with hq | hq
    · exact own_stay (below_own (h.dat q hq) hb) hg.1 (fun k hk e => h.ne q hq k hk e.symm)
    · simp at hq; subst hq
      exact own_stay (own_mono hd hbase) hg.1 (fun k hk e => by have := hlow k e.symm; have := hnew k hk; omega)
  · rcases List.mem_append.1 hq with hq | hq
    · rcases hv' k e with h1 | h1
      · exact h.ne q hq k hk h1
      · have := (blk_lt (h.dat q hq) hk).2; omega
    · simp at hq; subst hq
      have := hnew k hk
      rcases hv' k e with h1 | h1
      · have := hlow k h1; omega
      · omega
  · rw [List.pairwise_append]
    refine ⟨h.two, List.pairwise_singleton _ _, fun p hp q hq k hk e => ?_⟩
    simp at hq; subst hq
    have := hnew k e
    have := (blk_lt (h.dat p hp) hk).2
    omega
end
theorem grown_set1 (w : World) (g j : Nat) (u : Value) : w.grownBy (w.setCell ⟨g, j, none⟩ u) (some g) :=
  ⟨rfl, rfl, rfl, by simp [World.setCell], fun k _ hn => Below.heap_setCell _ _ _ _ (fun e => hn (congrArg some e))⟩
theorem grown_set {w w' : World} {g j : Nat} {u : Value} (h : w.grownBy w' (some g)) : w.grownBy (w'.setCell ⟨g, j, none⟩ u) (some g) := by
  have h2 := grown_set1 w' g j u
  exact ⟨h2.os.trans h.os, h2.tape.trans h.tape, h2.output.trans h.output, Nat.le_trans h.size h2.size, fun k hk hn => (h2.block k (Nat.lt_of_lt_of_le hk h.size) hn).trans (h.block k hk hn)⟩
/-- Only such blocks, and new ones, are others. -/
structure Tch (T : Nat → Prop) (w w' : World) : Prop where
  os : w'.os = w.os
  tape : w'.tape = w.tape
  output : w'.output = w.output
  size : w.heap.size ≤ w'.heap.size
  block : ∀ k, k < w.heap.size → ¬ T k → w'.heap[k]? = w.heap[k]?
section
variable {T : Nat → Prop} {w w1 w' : World}
theorem Tch.refl (T : Nat → Prop) (w : World) : Tch T w w := ⟨rfl, rfl, rfl, Nat.le_refl _, fun _ _ _ => rfl⟩
theorem Tch.trans (h1 : Tch T w w1) (h2 : Tch T w1 w') : Tch T w w' := ⟨h2.os.trans h1.os, h2.tape.trans h1.tape, h2.output.trans h1.output, Nat.le_trans h1.size h2.size, fun k hk hn => (h2.block k (Nat.lt_of_lt_of_le hk h1.size) hn).trans (h1.block k hk hn)⟩
theorem Tch.weak {T' : Nat → Prop} (h : Tch T w w') (ht : ∀ k, T k → T' k) : Tch T' w w' := ⟨h.os, h.tape, h.output, h.size, fun k hk hn => h.block k hk fun hh => hn (ht k hh)⟩
theorem Tch.of_grown {r : Option Nat} (h : w.grownBy w' r) (hr : ∀ k, r = some k → T k) : Tch T w w' := ⟨h.os, h.tape, h.output, h.size, fun k hk hn => h.block k hk fun e => hn (hr k e.symm)⟩
theorem Tch.of_below (h : Below w.heap.size w w') : Tch T w w' := ⟨h.os, h.tape, h.output, h.size, fun k hk _ => h.block k hk⟩
theorem Tch.below {B : Nat} (h : Tch T w w') (hB : B ≤ w.heap.size) (ht : ∀ k, T k → B ≤ k) : Below B w w' := ⟨h.os, h.tape, h.output, h.size, fun k hk => h.block k (by omega) fun hh => by have := ht k hh; omega⟩
theorem Tch.own {base e size n : Nat} {v : Value} {xs : List Value} (h : Tch T w w') (ho : w.ownsRow base e size v n xs) (hn : ∀ k, v.ownBlock = some k → ¬ T k) : w'.ownsRow base e size v n xs := by
  refine ⟨ho.1, ?_⟩
  rcases ho.2 with h1 | ⟨g, cap, cur, rfl, hb, hh, h2⟩
  · exact .inl h1
  · have hlt : g < w.heap.size := by
      rcases Nat.lt_or_ge g w.heap.size with h | h
      · exact h
      · rw [Array.getElem?_eq_none h] at hh; simp at hh
    exact .inr ⟨g, cap, cur, rfl, hb, by rw [h.block g hlt (hn g rfl)]; exact hh, h2⟩
theorem Tch.set {g j : Nat} {u : Value} (h : Tch T w w') (hg : T g) : Tch T w (w'.setCell ⟨g, j, none⟩ u) :=
  h.trans (Tch.of_grown (grown_set1 w' g j u) fun k hk => by injection hk with hk; rw [← hk]; exact hg)
/-- The blocks of a list of our own. -/
def DBlk {α : Type} (v : Value) (L : List (α × Value)) (k : Nat) : Prop := v.ownBlock = some k ∨ ∃ q ∈ L, q.2.ownBlock = some k
end
theorem scr2_byte (x : UInt8) : ∃ y : UInt8, (y.toNat : Int) = bits .xor .u8 (x.toNat : Int) 85 := by
  have hx := x.toNat_lt
  refine ⟨UInt8.ofNat (x.toNat ^^^ 85), ?_⟩
  have h := u8_xor_nat x.toNat 85 (by omega) (by omega)
  have h2 : x.toNat ^^^ 85 < 2 ^ 8 := Nat.xor_lt_two_pow (by omega) (by omega)
  rw [show (85 : Int) = ((85 : Nat) : Int) by rfl, h]
  simp only [UInt8.toNat_ofNat']; omega
set_option maxRecDepth 100000 in
set_option maxHeartbeats 2000000 in
/-- Bytes written over: that block alone is another. -/
theorem scribble2_any (base n : Nat) (v : Value) (l : List UInt8) (w : World) (hown : w.ownsRow base 5 1 v n (l.map B8)) (hn : n ≤ 1000000) (hbase : base ≤ w.heap.size) :
    Calls Tryd.prog 33 #[v] w fun e w' => e = .returned (.tuple #[]) ∧ w.grownBy w' v.ownBlock := by
  obtain ⟨i0, hi, hz0, hz1, hz2⟩ := info_parts infoU8
  have hl : n = l.length := (Sl.of_own hown).2
  obtain ⟨ao, cap, rfl⟩ := own_slice hown
  go_enter Tryd.func33, Tryd.ntmps33
  go_wp2
  go_loopw [2] (fun i wr => ∃ k : Nat, k ≤ n ∧ i = .int .i64 k ∧ w.grownBy wr (Value.slice ao n cap).ownBlock ∧ ∃ xs : List UInt8, xs.length = n ∧ wr.ownsRow base 5 1 (.slice ao n cap) n (xs.map B8)) (fun i _ => n - (intOf i).toNat)
  case atStart => exact ⟨0, by omega, rfl, grown_refl _ _, l, hl.symm, hown⟩
  case round =>
    obtain ⟨k, hk, rfl, hbl, xs, hxl, ho⟩ := hrel
    clear hown
    by_cases hlt : k < n
    · obtain ⟨g, cap', hv, hbg, hcap, hmax, hO⟩ := own_of ho (by intro h; simp [h] at hxl; omega)
      obtain ⟨rfl, rfl⟩ : ao = some ⟨g, 0, none⟩ ∧ cap = cap' := by simpa [hxl] using hv
      clear hv
      obtain ⟨x, hx⟩ : ∃ x, xs[k]? = some x := ⟨_, List.getElem?_eq_getElem (by omega)⟩
      have hc : wr.cell? ⟨g, k, none⟩ = some (.int .u8 (x.toNat : Int)) := by
        rw [ho.cellAt k (by omega), List.getElem?_map, hx]; rfl
      have hfz := ho.frozenAt k
      obtain ⟨y, hy⟩ := scr2_byte x
      have HY := Lib.hid hy; have HO := Lib.hid ho; have HX := Lib.hid hxl; have HBL := Lib.hid hbl
      clear hy ho hxl hbl hO hx
      go_wp2
      rw [← HY.out]
      go_roundw
      case rel =>
        refine ⟨k + 1, by omega, by go_num, grown_set HBL.out, xs.set k y, by simp [HX.out], ?_⟩
        have := HO.out.stored k (B8 y)
        rw [List.map_set]
        exact this.1
      case measure => simp [intOf]; omega
    · have HB := Lib.hid hbl; clear hbl
      have hsz := HB.out.size
      go_wp2_with (first
        | (at_builtin; refine wpList_append_at _ rfl _ _ 31 rfl base 5 i0 (.int .u8 0) 1 1 Tryd.underlying31 hi hz0 hz1 hz2 rfl (by decide) _ _ _ rfl (ho.alloc _) ⟨wr.heap.size, 0, none⟩ 1 1 [B8 5] rfl rfl ?c1 ?c2 ?c3 ?c4 ?c5 ?_))
      case c1 =>
        intro t u hj
        match t, hj with
        | 0, hj => simp at hj; subst hj; simp [Addr.add]
      case c2 => intro u hu; simp at hu; subst hu; rfl
      case c3 => unfold maxLen; omega
      case c4 => omega
      case c5 => simp; omega
      intro v' w1 hown' hgrow hat
      go_wp2
      refine bodyPost_end (v := .tuple #[]) (by simp [results, Tryd.results33]) rfl ⟨rfl, ?_⟩
      have hB2 : w.grownBy wr (Value.slice ao l.length cap).ownBlock := by have h := HB.out; rw [hl] at h; exact h
      have hgr : Grew wr w1 (.slice ao l.length cap) v' := (Grew.refl _ _).app hgrow hat
      have h1 : Grew w wr (.slice ao l.length cap) (.slice ao l.length cap) := ⟨hB2, .inl rfl⟩
      have h2 := (h1.trans hgr).1
      first | exact h2 | (rw [hl]; exact h2)
end Go.Proofs.YtpgnlhfokffioaaDoor
