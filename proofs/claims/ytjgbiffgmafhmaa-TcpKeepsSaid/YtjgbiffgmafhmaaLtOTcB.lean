/-
  A connection in memory: what it owns, and how it stays.
-/
import Derived.Test.YtjgbiffgmafhmaaLtOTcA
import Derived.Test.YtjgbiffgmafhmaaLtOReL
import Derived.Test.YtjgbiffgmafhmaaLtOOv2
namespace Go.Proofs.Ytjgbiffgmafhmaa
open Go.RowKit
def KSeg : DK ES := ⟨7, ES.row, fun x => x.d, by decide, fun _ _ => rfl, fun x v h u hu => by
  simp only [ES.row, List.mem_cons, List.not_mem_nil, or_false] at hu
  rcases hu with rfl | rfl | rfl | rfl | rfl | rfl | rfl <;> first | rfl | exact h⟩
/-- What a connection owns: each group of blocks has a colour of its own. -/
structure MOc (B : Nat) (H : List Nat) (q : Nat) (col : Nat → Nat) (vo vp vl vt : Value) (PL : List (EP × Value)) (SL : List (ES × Value)) (out T : List UInt8) (W : World) : Prop where
  bq : B ≤ q
  qw : q < W.heap.size
  hH : ∀ k ∈ H, k < W.heap.size ∧ col k = 0
  hq : col q = 1
  o : W.ownsRow B 5 1 vo out.length (out.map B8)
  oc : ∀ k, vo.ownBlock = some k → col k = 2
  p : DOwn KPart 58 W B vp PL
  pc : ∀ k, DBlk vp PL k → col k = 3
  s : DOwn KSeg 70 W B vl SL
  sc : ∀ k, DBlk vl SL k → col k = 4
  t : W.ownsRow B 5 1 vt T.length (T.map B8)
  tc : ∀ k, vt.ownBlock = some k → col k = 5
def MO (B : Nat) (H : List Nat) (q : Nat) (vo vp vl vt : Value) (PL : List (EP × Value)) (SL : List (ES × Value)) (out T : List UInt8) (W : World) : Prop := ∃ col, MOc B H q col vo vp vl vt PL SL out T W
section
variable {B q : Nat} {H : List Nat} {vo vp vl vt : Value} {PL : List (EP × Value)} {SL : List (ES × Value)} {out T : List UInt8} {W W' : World}
theorem MO.stay {r : Option Nat} (h : MO B H q vo vp vl vt PL SL out T W) (hg : W.grownBy W' r) (hr : ∀ k, r = some k → W.heap.size ≤ k ∨ k = q ∨ k ∈ H) : MO B H q vo vp vl vt PL SL out T W' := by
  obtain ⟨col, h⟩ := h
  have hn : ∀ (k i : Nat), 2 ≤ i → k < W.heap.size → col k = i → some k ≠ r := fun k i hi hk hc e => by
    rcases hr k e.symm with h1 | h1 | h1
    · omega
    · subst h1; have := h.hq; omega
    · have := (h.hH k h1).2; omega
  exact ⟨col, h.bq, Nat.lt_of_lt_of_le h.qw hg.size, fun k hk => ⟨Nat.lt_of_lt_of_le (h.hH k hk).1 hg.size, (h.hH k hk).2⟩, h.hq,
    own_stay h.o hg (fun k hk => hn k 2 (by decide) (blk_lt h.o hk).2 (h.oc k hk)), h.oc,
    h.p.stay hg (fun k hk => hn k 3 (by decide) (dblk_lt h.p hk).2 (h.pc k hk)), h.pc,
    h.s.stay hg (fun k hk => hn k 4 (by decide) (dblk_lt h.s hk).2 (h.sc k hk)), h.sc,
    own_stay h.t hg (fun k hk => hn k 5 (by decide) (blk_lt h.t hk).2 (h.tc k hk)), h.tc⟩
theorem grown_of_below (h : Below W.heap.size W W') : W.grownBy W' none := ⟨h.os, h.tape, h.output, h.size, fun k hk _ => h.block k hk⟩
theorem MO.below (h : MO B H q vo vp vl vt PL SL out T W) (hb : Below W.heap.size W W') : MO B H q vo vp vl vt PL SL out T W' := h.stay (grown_of_below hb) (fun _ e => nomatch e)
theorem MO.set (h : MO B H q vo vp vl vt PL SL out T W) {g j : Nat} {u : Value} (hg : g = q ∨ g ∈ H) : MO B H q vo vp vl vt PL SL out T (W.setCell ⟨g, j, none⟩ u) :=
  h.stay (grown_set1 W g j u) (fun k e => by injection e with e; subst e; exact .inr hg)
/-- A new colour for what is new. -/
theorem MOc.recol {col : Nat → Nat} (h : MOc B H q col vo vp vl vt PL SL out T W) (i : Nat → Nat) : MOc B H q (fun k => if k < W.heap.size then col k else i k) vo vp vl vt PL SL out T W :=
  ⟨h.bq, h.qw, fun k hk => ⟨(h.hH k hk).1, by simp only [if_pos (h.hH k hk).1]; exact (h.hH k hk).2⟩, by simp only [if_pos h.qw]; exact h.hq, h.o,
    fun k hk => by simp only [if_pos (blk_lt h.o hk).2]; exact h.oc k hk, h.p, fun k hk => by simp only [if_pos (dblk_lt h.p hk).2]; exact h.pc k hk, h.s, fun k hk => by simp only [if_pos (dblk_lt h.s hk).2]; exact h.sc k hk, h.t, fun k hk => by simp only [if_pos (blk_lt h.t hk).2]; exact h.tc k hk⟩
theorem MOc.below {col : Nat → Nat} (h : MOc B H q col vo vp vl vt PL SL out T W) (hb : Below W.heap.size W W') : MOc B H q col vo vp vl vt PL SL out T W' :=
  ⟨h.bq, Nat.lt_of_lt_of_le h.qw hb.size, fun k hk => ⟨Nat.lt_of_lt_of_le (h.hH k hk).1 hb.size, (h.hH k hk).2⟩, h.hq, below_own h.o hb, h.oc, h.p.below hb, h.pc, h.s.below hb, h.sc, below_own h.t hb, h.tc⟩
/-- A block that is kept besides. -/
theorem MO.hold (h : MO B H q vo vp vl vt PL SL out T W) {b : Nat} (hb : Below W.heap.size W W') (h1 : W.heap.size ≤ b) (h2 : b < W'.heap.size) : MO B (b :: H) q vo vp vl vt PL SL out T W' := by
  obtain ⟨col, h⟩ := h
  have h' := (h.recol (fun _ => 0)).below hb
  exact ⟨_, h'.bq, h'.qw, fun k hk => by
    rcases List.mem_cons.1 hk with rfl | hk
    · exact ⟨h2, if_neg (by omega)⟩
    · exact h'.hH k hk, h'.hq, h'.o, h'.oc, h'.p, h'.pc, h'.s, h'.sc, h'.t, h'.tc⟩
theorem MO.drop {b : Nat} (h : MO B (b :: H) q vo vp vl vt PL SL out T W) : MO B H q vo vp vl vt PL SL out T W := by
  obtain ⟨col, h⟩ := h
  exact ⟨col, h.bq, h.qw, fun k hk => h.hH k (List.mem_cons_of_mem _ hk), h.hq, h.o, h.oc, h.p, h.pc, h.s, h.sc, h.t, h.tc⟩
/-- Bytes to be sent, anew. -/
theorem MO.newOut (h : MO B H q vo vp vl vt PL SL out T W) {vo' : Value} {out' : List UInt8} (hb : Below W.heap.size W W') (ho : W'.ownsRow W.heap.size 5 1 vo' out'.length (out'.map B8)) (hB : B ≤ W.heap.size) : MO B H q vo' vp vl vt PL SL out' T W' := by
  obtain ⟨col, h⟩ := h
  have h' := (h.recol (fun _ => 2)).below hb
  exact ⟨_, h'.bq, h'.qw, h'.hH, h'.hq, own_mono ho hB, fun k hk => if_neg (by have := (blk_lt ho hk).1; omega), h'.p, h'.pc, h'.s, h'.sc, h'.t, h'.tc⟩
theorem MO.noOut (h : MO B H q vo vp vl vt PL SL out T W) : MO B H q (.slice none 0 0) vp vl vt PL SL [] T W := by
  obtain ⟨col, h⟩ := h
  exact ⟨col, h.bq, h.qw, h.hH, h.hq, World.ownsRow_nil _ _ _ _, fun k hk => (nomatch hk), h.p, h.pc, h.s, h.sc, h.t, h.tc⟩
theorem MO.noParts (h : MO B H q vo vp vl vt PL SL out T W) : MO B H q vo (.slice none 0 0) vl vt [] SL out T W := by
  obtain ⟨col, h⟩ := h
  exact ⟨col, h.bq, h.qw, h.hH, h.hq, h.o, h.oc, .nil _ _ _ _, fun k hk => (by rcases hk with hk | ⟨_, hk, _⟩ <;> simp [Value.ownBlock] at hk), h.s, h.sc, h.t, h.tc⟩
open Classical in
/-- Parts, and what is told, anew. -/
theorem MO.newIn (h : MO B H q vo vp vl vt PL SL out T W) {vp' vt' : Value} {PL' : List (EP × Value)} {T' : List UInt8} (hb : Below W.heap.size W W') (hp : DOwn KPart 58 W' W.heap.size vp' PL') (ht : W'.ownsRow W.heap.size 5 1 vt' T'.length (T'.map B8)) (ha : ∀ k, vt'.ownBlock = some k → ¬ DBlk vp' PL' k) (hB : B ≤ W.heap.size) : MO B H q vo vp' vl vt' PL' SL out T' W' := by
  obtain ⟨col, h⟩ := h
  have h' := (h.recol (fun k => if DBlk vp' PL' k then 3 else 5)).below hb
  exact ⟨_, h'.bq, h'.qw, h'.hH, h'.hq, h'.o, h'.oc, hp.mono hB, fun k hk => by simp only [if_neg (show ¬ k < W.heap.size by have := (dblk_lt hp hk).1; omega), if_pos hk], h'.s, h'.sc, own_mono ht hB, fun k hk => by simp only [if_neg (show ¬ k < W.heap.size by have := (blk_lt ht hk).1; omega), if_neg (ha k hk)]⟩
/-- A segment more. -/
theorem MO.send (h : MO B H q vo vp vl vt PL SL out T W) {W2 W3 : World} {vl' d : Value} {s : ES} (hb : Below W.heap.size W W2) (hd : W2.ownsRow W.heap.size 5 1 d s.d.length (s.d.map B8))
    (ho : W3.ownsRow B 70 7 vl' (SL.length + 1) ((SL.map (fun q => ES.row q.1 q.2)).flatten ++ ES.row s d)) (hg : Grew W2 W3 vl vl') (hB : B ≤ W.heap.size) : MO B H q vo vp vl' vt PL (SL ++ [(s, d)]) out T W3 := by
  obtain ⟨col, h⟩ := h
  have hs := h.s.snoc hB hb hd ho hg
  have h2 := (h.recol (fun _ => 4)).below hb
  have hlow : ∀ k, vl.ownBlock = some k → k < W.heap.size := fun k hk => (blk_lt h.s.row hk).2
  have hn : ∀ (k i : Nat), i ≠ 4 → k < W2.heap.size → (if k < W.heap.size then col k else 4) = i → some k ≠ vl.ownBlock := fun k i hi hk hc e => by
    rw [if_pos (hlow k e.symm)] at hc
    have := h.sc k (.inl e.symm); omega
  refine ⟨_, h2.bq, Nat.lt_of_lt_of_le h2.qw hg.1.size, fun k hk => ⟨Nat.lt_of_lt_of_le (h2.hH k hk).1 hg.1.size, (h2.hH k hk).2⟩, h2.hq,
    own_stay h2.o hg.1 (fun k hk => hn k 2 (by decide) (blk_lt h2.o hk).2 (h2.oc k hk)), h2.oc,
    h2.p.stay hg.1 (fun k hk => hn k 3 (by decide) (dblk_lt h2.p hk).2 (h2.pc k hk)), h2.pc,
    hs, fun k hk => ?_, own_stay h2.t hg.1 (fun k hk => hn k 5 (by decide) (blk_lt h2.t hk).2 (h2.tc k hk)), h2.tc⟩
  by_cases hk4 : k < W.heap.size
  · simp only [if_pos hk4]
    rcases hk with hk | ⟨p, hp, hk⟩
    · rcases hg.2 with h1 | ⟨k', h1, hle⟩
      · exact h.sc k (.inl (h1.symm.trans hk))
      · rw [hk] at h1; injection h1 with h1; have := hb.size; omega
    · rcases List.mem_append.1 hp with hp | hp
      · exact h.sc k (.inr ⟨p, hp, hk⟩)
      · simp at hp; subst hp; have := (blk_lt hd hk).1; omega
  · simp only [if_neg hk4]
theorem MO.noHold (h : MO B H q vo vp vl vt PL SL out T W) : MO B [] q vo vp vl vt PL SL out T W := by
  obtain ⟨col, h⟩ := h
  exact ⟨col, h.bq, h.qw, fun k hk => by simp at hk, h.hq, h.o, h.oc, h.p, h.pc, h.s, h.sc, h.t, h.tc⟩
end
/-- What is held stays. -/
structure Kp (H : List Nat) (W W' : World) : Prop where
  size : W.heap.size ≤ W'.heap.size
  blk : ∀ k ∈ H, k < W.heap.size → W'.heap[k]? = W.heap[k]?
theorem Kp.refl (H : List Nat) (W : World) : Kp H W W := ⟨Nat.le_refl _, fun _ _ _ => rfl⟩
theorem Kp.trans {H : List Nat} {W W1 W2 : World} (h1 : Kp H W W1) (h2 : Kp H W1 W2) : Kp H W W2 := ⟨Nat.le_trans h1.size h2.size, fun k hk hl => (h2.blk k hk (Nat.lt_of_lt_of_le hl h1.size)).trans (h1.blk k hk hl)⟩
theorem Kp.of_below {H : List Nat} {W W' : World} (h : Below W.heap.size W W') : Kp H W W' := ⟨h.size, fun k _ hl => h.block k hl⟩
theorem Kp.set {H : List Nat} {W W' : World} {q j : Nat} {u : Value} (h : Kp H W W') (hq : q ∉ H) : Kp H W (W'.setCell ⟨q, j, none⟩ u) :=
  h.trans ⟨(grown_set1 W' q j u).size, fun k hk hl => (grown_set1 W' q j u).block k hl (fun e => by injection e with e; subst e; exact hq hk)⟩
theorem Kp.row {H : List Nat} {W W' : World} {b : Nat} {vs : List Value} (h : Kp H W W') (hb : b ∈ H) (hr : RowAt W b vs) : RowAt W' b vs := by
  have e := h.blk b hb hr.2.2
  exact ⟨fun j v hj => (World.cell?_of_block (w := W) (w' := W') (a := ⟨b, j, none⟩) e).trans (hr.1 j v hj), fun j => (World.frozen?_of_block (w := W) (w' := W') (a := ⟨b, j, none⟩) e).trans (hr.2.1 j), Nat.lt_of_lt_of_le hr.2.2 h.size⟩
theorem MO.notH {B q : Nat} {H : List Nat} {vo vp vl vt : Value} {PL : List (EP × Value)} {SL : List (ES × Value)} {out T : List UInt8} {W : World} (h : MO B H q vo vp vl vt PL SL out T W) : q ∉ H := fun hk => by
  obtain ⟨col, h⟩ := h
  have := (h.hH q hk).2; have := h.hq; omega
end Go.Proofs.Ytjgbiffgmafhmaa
