/-
  Two disks side by side, the program's and the page's: a call of the one leaves the other.
  Two disks side by side: the page's says what the program's says.
  The law DiskExact: what it wants besides.
-/
import Derived.Test.YtcglmkcefenjcaaRdY
import Derived.Test.YtcglmkcefenjcaaDkT
namespace Go.Proofs.Ytcglmkcefenjcaa
open Go.RowKit Go.Lib
def blks (R : List OR) : List Nat := R.filterMap fun r => r.v.ownBlock
theorem blks_mem {R : List OR} {r : OR} {k : Nat} (h : r ∈ R) (hk : r.v.ownBlock = some k) : k ∈ blks R := List.mem_filterMap.2 ⟨r, h, hk⟩
theorem blks_of {R : List OR} {k : Nat} (h : k ∈ blks R) : ∃ r ∈ R, r.v.ownBlock = some k := List.mem_filterMap.1 h
/-- What is held and owned by another stays. -/
theorem Kz.at_ {H : List Nat} {B : Nat} {W W' : World} {r : OR} (h : Kz H W W') (ho : r.At B W) (hb : ∀ k, r.v.ownBlock = some k → k ∈ H) : r.At B W' := by
  rcases ho with ⟨h1, ⟨h2, h4⟩ | ⟨g', cap', cur, e', hB, hh, h3⟩⟩
  · exact ⟨h1, .inl ⟨h2, h4⟩⟩
  · refine ⟨h1, .inr ⟨g', cap', cur, e', hB, ?_, h3⟩⟩
    have hlt : g' < W.heap.size := by
      rcases Nat.lt_or_ge g' W.heap.size with h | h
      · exact h
      · rw [Array.getElem?_eq_none h] at hh; cases hh
    rw [h.blk g' (hb g' (by rw [e']; rfl)) hlt]; exact hh
/-- The other's rows, behind a call of the one. -/
theorem Owns.other {B q q' : Nat} {H' H0 Hk : List Nat} {R1 R2 : List OR} {W W' : World} (h2 : Owns B (q' :: H0) R2 W) (hq : q ∈ H0) (h1 : Owns B (q :: (q' :: blks R2 ++ H')) R1 W') (hk : Kz Hk W W') (hK : ∀ k ∈ blks R2, k ∈ Hk) (hH : ∀ k ∈ H', k ∉ blks R2) : Owns B (q' :: (q :: blks R1 ++ H')) R2 W' := by
  refine ⟨fun r hr => hk.at_ (h2.at_ r hr) fun k hk2 => hK k (blks_mem hr hk2), h2.two, fun k hk2 => ?_⟩
  have hold : ∀ k, k ∈ q' :: H0 → k < W'.heap.size ∧ ∀ r ∈ R2, r.v.ownBlock ≠ some k := fun k hk3 => ⟨Nat.lt_of_lt_of_le (h2.held k hk3).1 hk.size, (h2.held k hk3).2⟩
  simp only [List.cons_append, List.mem_cons, List.mem_append] at hk2
  rcases hk2 with rfl | rfl | hk2 | hk2
  · exact hold _ (by simp)
  · exact hold _ (by simp [hq])
  · obtain ⟨r1, hr1, e1⟩ := blks_of hk2
    refine ⟨(blk_lt (h1.at_ r1 hr1) e1).2, fun r hr e => ?_⟩
    exact (h1.held k (List.mem_cons_of_mem _ (List.mem_cons_of_mem _ (List.mem_append_left _ (blks_mem hr e))))).2 r1 hr1 e1
  · refine ⟨(h1.held k (by simp [hk2])).1, fun r hr e => hH k hk2 (blks_mem hr e)⟩
/-- A disk with its blocks told. -/
def DkL (B : Nat) (H : List Nat) (q : Nat) (d : ED) (L : List Nat) (W : World) : Prop :=
  ∃ an cn ad cd ay cy aw cw ap cp PL, RowAt W q (d.row (.slice an d.now.length cn) (.slice ad d.dur.length cd) (.slice ay d.dy.length cy) (.slice aw d.wr.length cw) (.slice ap PL.length cp)) ∧ PL.map Prod.fst = d.ps ∧ B ≤ q ∧
    Owns B (q :: H) (Rs (.slice an d.now.length cn) (.slice ad d.dur.length cd) (.slice ay d.dy.length cy) (.slice aw d.wr.length cw) (.slice ap PL.length cp) d PL) W ∧ blks (Rs (.slice an d.now.length cn) (.slice ad d.dur.length cd) (.slice ay d.dy.length cy) (.slice aw d.wr.length cw) (.slice ap PL.length cp) d PL) = L
def RDkL (B : Nat) (H : List Nat) (q : Nat) (d : ED) (L : List Nat) (W : World) : Prop :=
  ∃ ad cd an cn ay cy ap cp PL, RowAt W q (d.rrow (.slice ad d.dur.length cd) (.slice an d.now.length cn) (.slice ay d.dy.length cy) (.slice ap PL.length cp)) ∧ PL.map Prod.fst = d.ps ∧ B ≤ q ∧
    Owns B (q :: H) (RRs (.slice ad d.dur.length cd) (.slice an d.now.length cn) (.slice ay d.dy.length cy) (.slice ap PL.length cp) d PL) W ∧ blks (RRs (.slice ad d.dur.length cd) (.slice an d.now.length cn) (.slice ay d.dy.length cy) (.slice ap PL.length cp) d PL) = L
structure Two (B : Nat) (H : List Nat) (q q' : Nat) (d r : ED) (W : World) : Prop where
  ne : q ≠ q'
  n1 : q ∉ H
  n2 : q' ∉ H
  ex : ∃ L1 L2, DkL B (q' :: L2 ++ H) q d L1 W ∧ RDkL B (q :: L1 ++ H) q' r L2 W
section
variable {B q q' : Nat} {H hs : List Nat} {d d' r r' : ED} {W W' : World} {L1 L2 L : List Nat}
theorem DkL.dk (h : DkL B H q d L W) : Dk B H q d W := by
  obtain ⟨an, cn, ad, cd, ay, cy, aw, cw, ap, cp, PL, h1, h2, h3, h4, -⟩ := h
  exact ⟨an, cn, ad, cd, ay, cy, aw, cw, ap, cp, PL, h1, h2, h3, h4⟩
theorem RDkL.dk (h : RDkL B H q d L W) : RDk B H q d W := by
  obtain ⟨ad, cd, an, cn, ay, cy, ap, cp, PL, h1, h2, h3, h4, -⟩ := h
  exact ⟨ad, cd, an, cn, ay, cy, ap, cp, PL, h1, h2, h3, h4⟩
theorem Dk.dkL (h : Dk B H q d W) : ∃ L, DkL B H q d L W := by
  obtain ⟨an, cn, ad, cd, ay, cy, aw, cw, ap, cp, PL, h1, h2, h3, h4⟩ := h
  exact ⟨_, an, cn, ad, cd, ay, cy, aw, cw, ap, cp, PL, h1, h2, h3, h4, rfl⟩
theorem RDk.dkL (h : RDk B H q d W) : ∃ L, RDkL B H q d L W := by
  obtain ⟨ad, cd, an, cn, ay, cy, ap, cp, PL, h1, h2, h3, h4⟩ := h
  exact ⟨_, ad, cd, an, cn, ay, cy, ap, cp, PL, h1, h2, h3, h4, rfl⟩
theorem DkL.map (h : DkL B H q d L W) (hr : ∀ vs, RowAt W q vs → RowAt W' q vs) (ho : ∀ R, blks R = L → Owns B (q :: H) R W → Owns B (q :: hs) R W') : DkL B hs q d L W' := by
  obtain ⟨an, cn, ad, cd, ay, cy, aw, cw, ap, cp, PL, h1, h2, h3, h4, h5⟩ := h
  exact ⟨an, cn, ad, cd, ay, cy, aw, cw, ap, cp, PL, hr _ h1, h2, h3, ho _ h5 h4, h5⟩
theorem RDkL.map (h : RDkL B H q r L W) (hr : ∀ vs, RowAt W q vs → RowAt W' q vs) (ho : ∀ R, blks R = L → Owns B (q :: H) R W → Owns B (q :: hs) R W') : RDkL B hs q r L W' := by
  obtain ⟨ad, cd, an, cn, ay, cy, ap, cp, PL, h1, h2, h3, h4, h5⟩ := h
  exact ⟨ad, cd, an, cn, ay, cy, ap, cp, PL, hr _ h1, h2, h3, ho _ h5 h4, h5⟩
theorem DkL.fact (h : DkL B H q d L W) : ∃ R c, blks R = L ∧ RowAt W q c ∧ B ≤ q ∧ Owns B (q :: H) R W := by
  obtain ⟨an, cn, ad, cd, ay, cy, aw, cw, ap, cp, PL, h1, h2, h3, h4, h5⟩ := h
  exact ⟨_, _, h5, h1, h3, h4⟩
theorem RDkL.fact (h : RDkL B H q r L W) : ∃ R c, blks R = L ∧ RowAt W q c ∧ B ≤ q ∧ Owns B (q :: H) R W := by
  obtain ⟨ad, cd, an, cn, ay, cy, ap, cp, PL, h1, h2, h3, h4, h5⟩ := h
  exact ⟨_, _, h5, h1, h3, h4⟩
/-- What is seen of the program's is seen by the page's. -/
theorem RDkL.other {H' H0 Hk : List Nat} (h2 : RDkL B H0 q' r L2 W) (hq : q ∈ H0) (h1 : DkL B (q' :: L2 ++ H') q d' L1 W') (hk : Kz Hk W W') (hq2 : q' ∈ Hk) (hK : ∀ k ∈ L2, k ∈ Hk) (hH : ∀ k ∈ H', k ∉ L2) : RDkL B (q :: L1 ++ H') q' r L2 W' := by
  obtain ⟨R1, c, e1, -, -, ho⟩ := h1.fact
  refine h2.map (fun vs hr => hk.row hq2 hr) fun R e h3 => ?_
  subst e e1
  exact h3.other hq ho hk hK hH
theorem DkL.other {H' H0 Hk : List Nat} (h2 : DkL B H0 q d L1 W) (hq : q' ∈ H0) (h1 : RDkL B (q :: L1 ++ H') q' r' L2 W') (hk : Kz Hk W W') (hq2 : q ∈ Hk) (hK : ∀ k ∈ L1, k ∈ Hk) (hH : ∀ k ∈ H', k ∉ L1) : DkL B (q' :: L2 ++ H') q d L1 W' := by
  obtain ⟨R1, c, e1, -, -, ho⟩ := h1.fact
  refine h2.map (fun vs hr => hk.row hq2 hr) fun R e h3 => ?_
  subst e e1
  exact h3.other hq ho hk hK hH
theorem Two.lts (h : Two B H q q' d r W) : q < W.heap.size ∧ q' < W.heap.size ∧ B ≤ q ∧ B ≤ q' ∧ ∀ k ∈ H, k < W.heap.size := by
  obtain ⟨L1, L2, h1, h2⟩ := h.ex
  obtain ⟨R1, c1, e1, f1, g1, o1⟩ := h1.fact
  obtain ⟨R2, c2, e2, f2, g2, o2⟩ := h2.fact
  exact ⟨f1.2.2, f2.2.2, g1, g2, fun k hk => (o1.held k (by simp [hk])).1⟩
theorem Two.afterD (hT : Two B H q q' d r W) : ∃ hs, (∀ k ∈ H, k ∈ hs) ∧ q ∉ hs ∧ Dk B hs q d W ∧ (∀ d' W', Dk B hs q d' W' → Kz hs W W' → Two B H q q' d' r W') ∧ (∀ d' W' k, Dk B (k :: hs) q d' W' → Kz hs W W' → W.heap.size ≤ k → Two B (k :: H) q q' d' r W') := by
  have hlt := hT.lts
  obtain ⟨hne, hn1, hn2, L1, L2, h1, h2⟩ := hT
  obtain ⟨R1, c1, e1, f1, g1, o1⟩ := h1.fact
  obtain ⟨R2, c2, e2, f2, g2, o2⟩ := h2.fact
  have hL2 : ∀ k ∈ L2, k < W.heap.size := fun k hk => by
    subst e2
    obtain ⟨x, hx, e⟩ := blks_of hk
    exact (blk_lt (o2.at_ x hx) e).2
  have hq2 : q ∉ L2 := fun hk => by
    subst e2
    obtain ⟨x, hx, e⟩ := blks_of hk
    exact (o2.held q (by simp)).2 x hx e
  have hH2 : ∀ k ∈ H, k ∉ L2 := fun k hk hk2 => by
    subst e2
    obtain ⟨x, hx, e⟩ := blks_of hk2
    exact (o2.held k (by simp [hk])).2 x hx e
  refine ⟨q' :: L2 ++ H, fun k hk => by simp [hk], ?_, h1.dk, fun d' W' h3 hk => ?_, fun d' W' k h3 hk hkl => ?_⟩
  · simp only [List.cons_append, List.mem_cons, List.mem_append, not_or]; exact ⟨hne, hq2, hn1⟩
  · obtain ⟨L1', h4⟩ := h3.dkL
    exact ⟨hne, hn1, hn2, L1', L2, h4, h2.other (by simp) h4 hk (by simp) (fun k hk => by simp [hk]) hH2⟩
  · have h3' : Dk B (q' :: L2 ++ k :: H) q d' W' := h3.subH (fun j hj => by simp only [List.cons_append, List.mem_cons, List.mem_append] at hj ⊢; rcases hj with h | h | h | h <;> simp [h])
    obtain ⟨L1', h4⟩ := h3'.dkL
    refine ⟨hne, ?_, ?_, L1', L2, h4, h2.other (by simp) h4 hk (by simp) (fun k hk => by simp [hk]) (fun j hj => ?_)⟩
    · simp only [List.mem_cons, not_or]; exact ⟨by omega, hn1⟩
    · simp only [List.mem_cons, not_or]; exact ⟨by omega, hn2⟩
    · rcases List.mem_cons.1 hj with rfl | hj
      · exact fun hj2 => by have := hL2 _ hj2; omega
      · exact hH2 j hj
theorem Two.afterR (hT : Two B H q q' d r W) : ∃ hs, (∀ k ∈ H, k ∈ hs) ∧ q' ∉ hs ∧ RDk B hs q' r W ∧ (∀ r' W', RDk B hs q' r' W' → Kz hs W W' → Two B H q q' d r' W') := by
  obtain ⟨hne, hn1, hn2, L1, L2, h1, h2⟩ := hT
  obtain ⟨R1, c1, e1, f1, g1, o1⟩ := h1.fact
  have hq1 : q' ∉ L1 := fun hk => by
    subst e1
    obtain ⟨x, hx, e⟩ := blks_of hk
    exact (o1.held q' (by simp)).2 x hx e
  have hH1 : ∀ k ∈ H, k ∉ L1 := fun k hk hk2 => by
    subst e1
    obtain ⟨x, hx, e⟩ := blks_of hk2
    exact (o1.held k (by simp [hk])).2 x hx e
  refine ⟨q :: L1 ++ H, fun k hk => by simp [hk], ?_, h2.dk, fun r' W' h3 hk => ?_⟩
  · simp only [List.cons_append, List.mem_cons, List.mem_append, not_or]; exact ⟨fun e => hne e.symm, hq1, hn2⟩
  · obtain ⟨L2', h4⟩ := h3.dkL
    exact ⟨hne, hn1, hn2, L1, L2', h1.other (by simp) h4 hk (by simp) (fun k hk => by simp [hk]) hH1, h4⟩
theorem Two.stay {H' : List Nat} (h : Two B H q q' d r W) (h1 : ∀ vs, RowAt W q vs → RowAt W' q vs) (h2 : ∀ vs, RowAt W q' vs → RowAt W' q' vs) (hn1 : q ∉ H') (hn2 : q' ∉ H') (ho : ∀ (a : Nat) (L : List Nat) R, Owns B (a :: L ++ H) R W → Owns B (a :: L ++ H') R W') : Two B H' q q' d r W' := by
  obtain ⟨hne, -, -, L1, L2, k1, k2⟩ := h
  exact ⟨hne, hn1, hn2, L1, L2, k1.map h1 (fun R _ hR => ho q (q' :: L2) R hR), k2.map h2 (fun R _ hR => ho q' (q :: L1) R hR)⟩
theorem Two.below (h : Two B H q q' d r W) (hb : Below W.heap.size W W') : Two B H q q' d r W' := h.stay (fun _ hr => hr.below hb) (fun _ hr => hr.below hb) h.n1 h.n2 (fun _ _ _ ho => ho.below hb)
theorem Two.hold {b : Nat} (h : Two B H q q' d r W) (hb : Below W.heap.size W W') (h1 : W.heap.size ≤ b) (h2 : b < W'.heap.size) : Two B (b :: H) q q' d r W' := by
  have hl := h.lts
  refine h.stay (fun _ hr => hr.below hb) (fun _ hr => hr.below hb) ?_ ?_ fun a L R ho => (ho.hold hb h1 h2).subH fun k hk => ?_
  · simp only [List.mem_cons, not_or]; exact ⟨by omega, h.n1⟩
  · simp only [List.mem_cons, not_or]; exact ⟨by omega, h.n2⟩
  · simp only [List.cons_append, List.mem_cons, List.mem_append] at hk ⊢; rcases hk with h | h | h | h <;> simp [h]
theorem Two.chg {k : Nat} (h : Two B H q q' d r W) (s : W.grownBy W' (some k)) (hk : k ∈ H) : Two B H q q' d r W' :=
  h.stay (fun _ hr => hr.chg s (fun e => h.n1 (e ▸ hk))) (fun _ hr => hr.chg s (fun e => h.n2 (e ▸ hk))) h.n1 h.n2 (fun _ _ _ ho => ho.chg s (by simp [hk]))
theorem Two.subH {H' : List Nat} (h : Two B H' q q' d r W) (hs : ∀ k ∈ H, k ∈ H') : Two B H q q' d r W :=
  h.stay (fun _ hr => hr) (fun _ hr => hr) (fun hk => h.n1 (hs _ hk)) (fun hk => h.n2 (hs _ hk)) (fun a L R ho => ho.subH fun k hk => by
    simp only [List.cons_append, List.mem_cons, List.mem_append] at hk ⊢
    rcases hk with h | h | h
    · simp [h]
    · simp [h]
    · simp [hs k h])
theorem RDk.wr (h : RDk B H q r W) (l : List Nat) : RDk B H q { r with wr := l } W := h
theorem Dk.mono {B' : Nat} (h : Dk B H q d W) (hB : B' ≤ B) : Dk B' H q d W := by
  obtain ⟨an, cn, ad, cd, ay, cy, aw, cw, ap, cp, PL, h1, h2, h3, h4⟩ := h
  exact ⟨an, cn, ad, cd, ay, cy, aw, cw, ap, cp, PL, h1, h2, Nat.le_trans hB h3, h4.mono hB⟩
theorem RDk.mono {B' : Nat} (h : RDk B H q r W) (hB : B' ≤ B) : RDk B' H q r W := by
  obtain ⟨ad, cd, an, cn, ay, cy, ap, cp, PL, h1, h2, h3, h4⟩ := h
  exact ⟨ad, cd, an, cn, ay, cy, ap, cp, PL, h1, h2, Nat.le_trans hB h3, h4.mono hB⟩
/-- A new one of the page's beside one of the program's. -/
theorem Two.new (h1 : Dk B H q d W) (hqH : q ∉ H) (hb : Below W.heap.size W W') (h2 : RDk W.heap.size [] q' r W') (hB : B ≤ W.heap.size) : Two B H q q' d r W' := by
  obtain ⟨L1, k1⟩ := h1.dkL
  obtain ⟨L2, k2⟩ := h2.dkL
  obtain ⟨R1, c1, e1, f1, g1, o1⟩ := k1.fact
  obtain ⟨R2, c2, e2, f2, g2, o2⟩ := k2.fact
  have hq := f1.2.2
  have hL2 : ∀ k ∈ L2, W.heap.size ≤ k ∧ k < W'.heap.size := fun k hk => by
    subst e2
    obtain ⟨x, hx, e⟩ := blks_of hk
    exact blk_lt (o2.at_ x hx) e
  have hL1 : ∀ k ∈ L1, k < W.heap.size := fun k hk => by
    subst e1
    obtain ⟨x, hx, e⟩ := blks_of hk
    exact (blk_lt (o1.at_ x hx) e).2
  have hHlt : ∀ k ∈ H, k < W.heap.size := fun k hk => (o1.held k (by simp [hk])).1
  have hs := hb.size
  refine ⟨by omega, hqH, fun hk => by have := hHlt _ hk; omega, L1, L2, ?_, ?_⟩
  · refine k1.map (fun _ hr => hr.below hb) fun R e ho => ?_
    subst e
    refine ⟨(ho.below hb).at_, ho.two, fun k hk => ?_⟩
    simp only [List.cons_append, List.mem_cons, List.mem_append] at hk
    rcases hk with rfl | rfl | hk | hk
    · exact (ho.below hb).held _ (by simp)
    · exact ⟨f2.2.2, fun x hx e => by have := hL1 _ (blks_mem hx e); omega⟩
    · exact ⟨(hL2 k hk).2, fun x hx e => by have := hL1 _ (blks_mem hx e); have := hL2 k hk; omega⟩
    · exact (ho.below hb).held _ (by simp [hk])
  · have k2' : RDkL B [] q' r L2 W' := by
      obtain ⟨ad, cd, an, cn, ay, cy, ap, cp, PL, h1, h2, h3, h4, h5⟩ := k2
      exact ⟨ad, cd, an, cn, ay, cy, ap, cp, PL, h1, h2, Nat.le_trans hB h3, h4.mono hB, h5⟩
    refine k2'.map (fun _ hr => hr) fun R e ho => ?_
    subst e
    refine ⟨ho.at_, ho.two, fun k hk => ?_⟩
    simp only [List.cons_append, List.mem_cons, List.mem_append] at hk
    rcases hk with rfl | rfl | hk | hk
    · exact ho.held _ (by simp)
    · exact ⟨by omega, fun x hx e => by have := hL2 _ (blks_mem hx e); omega⟩
    · have h3 := hL1 k hk
      exact ⟨by omega, fun x hx e => by have := hL2 _ (blks_mem hx e); omega⟩
    · have h3 := hHlt k hk
      exact ⟨by omega, fun x hx e => by have := hL2 _ (blks_mem hx e); omega⟩
end
def swk (k : Int) : Int := if k = 0 then 1 else if k = 1 then 0 else k
def swq (r : Rq) : Rq := { r with k := swk r.k }
/-- The page's disk beside the program's: kinds are numbered otherwise. -/
def sw (d : ED) : ED := { d with ps := d.ps.map swq }
theorem sw_new (b : List UInt8) : sw (newD b) = newD b := rfl
theorem sw_off (d : ED) (n : Int) : sw (offD d n) = offD (sw d) n := rfl
theorem powD_sw (d : ED) : powD (sw d) = sw (powD d) := by
  by_cases h : (d.arm && !d.off) = true
  · have h' : ((sw d).arm && !(sw d).off) = true := h
    unfold powD
    rw [if_pos h, if_pos h']; rfl
  · have h' : ¬ ((sw d).arm && !(sw d).off) = true := h
    unfold powD
    rw [if_neg h, if_neg h']
theorem raskE_sw (d : ED) (m : Bool) : raskE (sw d) m = raskE d m := by
  have h : (sw d).ps.length = d.ps.length := List.length_map ..
  unfold raskE
  rw [powD_sw, h]; rfl
theorem raskI_sw {d : ED} {k n : Int} {bl : Nat} {m : Bool} (hm : m = mayK d k n bl) : raskI (sw d) m = askI d k n bl := by
  unfold raskI askI
  rw [raskE_sw, hm, askE_r]; rfl
theorem raskE_sw2 {d : ED} {k n : Int} {bl : Nat} {m : Bool} (hm : m = mayK d k n bl) : raskE (sw d) m = askE d k n bl := by rw [raskE_sw, hm, askE_r]
theorem raskD_sw {d : ED} {k k' n : Int} {b : List UInt8} {m : Bool} (hk : swk k = k') (hm : m = mayK d k n b.length) : raskD (sw d) k' n b m = sw (askD d k n b) := by
  unfold raskD askD
  rw [raskE_sw2 hm]
  by_cases h : askE d k n b.length = 0
  · rw [if_pos h, if_pos h, powD_sw]
    unfold sw
    simp [swq, hk]
  · rw [if_neg h, if_neg h, powD_sw]
theorem may_w (d : ED) (n : Int) (bl : Nat) : (secB (sw d) n && (((bl : Nat) : Int) == 64)) = mayK d 0 n bl := by
  unfold secB mayK
  rw [Bool.eq_iff_iff]
  simp [sw]
  intros
  exact decide_eq_true_iff
theorem may_r (d : ED) (n : Int) : secB (sw d) n = mayK d 1 n 0 := by
  unfold secB mayK
  rw [Bool.eq_iff_iff]
  simp [sw]
  intros
  exact decide_eq_true_iff
theorem may_f (d : ED) (n : Int) : true = mayK d 2 n 0 := by
  unfold mayK
  simp
theorem compE_sw (d : ED) (n : Int) : compE (sw d) n = compE d n := by
  have h : (sw d).ps.length = d.ps.length := List.length_map ..
  unfold compE
  rw [powD_sw, h]; rfl
theorem compE_lt {d : ED} {n : Int} (h : compE d n = 0) : n.toNat < d.ps.length := by
  unfold compE at h
  split at h
  · cases h
  · split at h
    · cases h
    · omega
theorem compR_sw {d : ED} {n : Int} (h : compE d n = 0) : compR (sw d) n = swq (compR d n) := by
  have hl := compE_lt h
  unfold compR
  rw [List.getD_eq_getElem?_getD, List.getD_eq_getElem?_getD, show (sw d).ps = d.ps.map swq from rfl, List.getElem?_map, List.getElem?_eq_getElem hl]
  rfl
theorem compI_sw (d : ED) (n : Int) : compI (sw d) n = compI d n := by
  unfold compI
  rw [compE_sw]
  split
  · rename_i h; rw [compR_sw h]; rfl
  · rfl
/-- A sector that is not dirty is kept as it is. -/
def Cl (d : ED) : Prop := ∀ n, n < d.dy.length → d.dy[n]? = some false → secD d.now n = secD d.dur n
theorem Cl.congr {d d' : ED} (h : Cl d) (e1 : d'.now = d.now) (e2 : d'.dur = d.dur) (e3 : d'.dy = d.dy) : Cl d' := fun n hn hy => by
  rw [e1, e2]; rw [e3] at hn hy; exact h n hn hy
theorem Cl.powD {d : ED} (h : Cl d) : Cl (powD d) := h.congr (powD_same d).1 (powD_same d).2.1 (powD_same d).2.2.1
theorem Cl.askD {d : ED} (h : Cl d) (k n : Int) (b : List UInt8) : Cl (askD d k n b) := by
  unfold Go.Proofs.Ytcglmkcefenjcaa.askD
  split
  · exact h.powD.congr rfl rfl rfl
  · exact h.powD
theorem Cl.offD {d : ED} (h : Cl d) (n : Int) : Cl (offD d n) := h.congr rfl rfl rfl
theorem Cl.new (b : List UInt8) : Cl (newD b) := fun _ _ _ => rfl
theorem all_sec2 {a b : List UInt8} {N : Nat} (hl : a.length = b.length) (h8 : b.length = N * 64) (h : ∀ m, m < N → secD a m = secD b m) : a = b := by
  apply List.ext_getElem?
  intro i
  by_cases hi : i < N * 64
  · have := congrArg (fun l => l[i % 64]?) (h (i / 64) (by omega))
    rw [sec_at _ _ _ (by omega), sec_at _ _ _ (by omega)] at this
    rwa [show i / 64 * 64 + i % 64 = i by omega] at this
  · rw [List.getElem?_eq_none (by omega), List.getElem?_eq_none (by omega)]
/-- What a flush leaves. -/
theorem flush_all {d : ED} (hI : Dinv d) (hc : Cl d) : flushL d.now d.wr (d.dur, d.dy) = (d.now, List.replicate d.dy.length false) := by
  have h1 := hI.hn
  have h2 := hI.hd
  have hfs := flushL_sec d.now d.wr (d.dur, d.dy) (fun i hi => by have := hI.lt i hi; show i * 64 + 64 ≤ d.dur.length; omega) (by show d.now.length = d.dur.length; omega)
  have hdur : (flushL d.now d.wr (d.dur, d.dy)).1 = d.now := by
    refine all_sec2 (hfs.1.trans (by show d.dur.length = _; omega)) h1 fun m hm => ?_
    rw [hfs.2 m]
    by_cases hw : m ∈ d.wr
    · rw [if_pos hw]
    · rw [if_neg hw]
      have hy : d.dy[m]? = some false := by
        rw [List.getElem?_eq_getElem hm]
        cases hb : d.dy[m] with
        | false => rfl
        | true => exact absurd ((hI.hw m).2 (by rw [List.getElem?_eq_getElem hm, hb])) hw
      exact (hc m hm hy).symm
  have hdy : (flushL d.now d.wr (d.dur, d.dy)).2 = List.replicate d.dy.length false := by
    have hl := flushL_len d.now d.wr (d.dur, d.dy)
    refine List.ext_getElem? fun i => ?_
    by_cases hi : i < d.dy.length
    · rw [List.getElem?_replicate, if_pos hi]
      have hi2 : i < (flushL d.now d.wr (d.dur, d.dy)).2.length := by rw [hl]; exact hi
      rw [List.getElem?_eq_getElem hi2]
      cases hb : (flushL d.now d.wr (d.dur, d.dy)).2[i] with
      | false => rfl
      | true =>
        have h3 := (flushL_dy d.now d.wr (d.dur, d.dy) i).1 (by rw [List.getElem?_eq_getElem hi2, hb])
        exact absurd ((hI.hw i).2 h3.1) h3.2
    · rw [List.getElem?_eq_none (by rw [hl]; exact Nat.not_lt.1 hi), List.getElem?_eq_none (by rw [List.length_replicate]; exact Nat.not_lt.1 hi)]
  exact Prod.ext hdur hdy
theorem set_same2 {l : List Bool} {i : Nat} (h : l[i]? = some true) : l.set i true = l := by
  refine List.ext_getElem? fun j => ?_
  by_cases e : i = j
  · subst e; rw [List.getElem?_set_self (List.getElem?_eq_some_iff.1 h).1, h]
  · rw [List.getElem?_set_ne e]
/-- A request is carried out alike. -/
theorem perf_sw {d : ED} {r : Rq} (hI : Dinv d) (hc : Cl d) (hr : rqOK d r) : rperfB (sw d) (swq r) = perfB d r ∧ (∃ l, { rperfD (sw d) (swq r) with wr := l } = sw (perfD d r)) ∧ Cl (perfD d r) := by
  obtain ⟨ri, rk, rn, rb⟩ := r
  have hk := hr.k
  simp only at hk
  rcases hk with rfl | rfl | rfl
  · refine ⟨rfl, ⟨(perfD d ⟨ri, 0, rn, rb⟩).wr, ?_⟩, ?_⟩
    · by_cases hy : d.dy[rn.toNat]? = some true
      · have e : perfD d ⟨ri, 0, rn, rb⟩ = { d with now := splice d.now (rn.toNat * 64) rb } := by unfold perfD; rw [if_neg (show ¬ (0 : Int) = 1 by decide), if_pos rfl, if_pos hy]
        rw [e]
        have e2 : rperfD (sw d) (swq ⟨ri, 0, rn, rb⟩) = { sw d with now := splice d.now (rn.toNat * 64) rb, dy := d.dy.set rn.toNat true } := rfl
        rw [e2, set_same2 hy]; rfl
      · have e : perfD d ⟨ri, 0, rn, rb⟩ = { d with now := splice d.now (rn.toNat * 64) rb, dy := d.dy.set rn.toNat true, wr := d.wr ++ [rn.toNat] } := by unfold perfD; rw [if_neg (show ¬ (0 : Int) = 1 by decide), if_pos rfl, if_neg hy]
        rw [e]; rfl
    · have hn := hr.n (show (0 : Int) ≠ 2 by decide)
      have hb : rb.length = 64 := hr.b rfl
      have h1 := hI.hn
      simp only at hn
      have hnl : rn.toNat * 64 + 64 ≤ d.now.length := by omega
      have hN : (perfD d ⟨ri, 0, rn, rb⟩).now = splice d.now (rn.toNat * 64) rb ∧ (perfD d ⟨ri, 0, rn, rb⟩).dur = d.dur ∧ (perfD d ⟨ri, 0, rn, rb⟩).dy = d.dy.set rn.toNat true := by
        unfold perfD
        rw [if_neg (show ¬ (0 : Int) = 1 by decide), if_pos rfl]
        split
        · rename_i hy; exact ⟨rfl, rfl, (set_same2 hy).symm⟩
        · exact ⟨rfl, rfl, rfl⟩
      intro m hm hy
      rw [hN.2.2] at hm hy
      rw [hN.1, hN.2.1]
      by_cases e : rn.toNat = m
      · subst e
        rw [List.getElem?_set_self (by simpa using hm)] at hy; cases hy
      · rw [sec_splice_other hnl hb (Ne.symm e)]
        rw [List.getElem?_set_ne e] at hy
        exact hc m (by simpa using hm) hy
  · exact ⟨rfl, ⟨d.wr, rfl⟩, hc⟩
  · have hf := flush_all hI hc
    have e : perfD d ⟨ri, 2, rn, rb⟩ = { d with dur := d.now, dy := List.replicate d.dy.length false, wr := [] } := by
      unfold perfD
      rw [if_neg (show ¬ (2 : Int) = 1 by decide), if_neg (show ¬ (2 : Int) = 0 by decide), if_pos rfl, hf]
    refine ⟨rfl, ⟨[], ?_⟩, ?_⟩
    · rw [e]; rfl
    · rw [e]; exact fun _ _ _ => rfl
theorem comp_sw {d : ED} (ha : Dall d) (hc : Cl d) (n : Int) : rcompB (sw d) n = compB d n ∧ (∃ l, { rcompD (sw d) n with wr := l } = sw (compD d n)) ∧ Cl (compD d n) := by
  unfold rcompB rcompD compB compD
  rw [compE_sw]
  by_cases he : compE d n = 0
  · rw [if_pos he, if_pos he, if_pos he, if_pos he, compR_sw he, powD_sw]
    have hm : compR d n ∈ d.ps := by
      have hn := compE_lt he
      unfold compR
      rw [List.getD_eq_getElem?_getD, List.getElem?_eq_getElem hn]
      exact List.getElem_mem hn
    have e : ({ sw (powD d) with ps := (sw d).ps.eraseIdx n.toNat } : ED) = sw { powD d with ps := d.ps.eraseIdx n.toNat } := by
      unfold sw; simp only; rw [map_erase]
    rw [e]
    exact perf_sw (ha.ok.inv.pow _) (hc.powD.congr rfl rfl rfl) ((ha.ok.rq _ hm).pow _)
  · rw [if_neg he, if_neg he, if_neg he, if_neg he, powD_sw]
    exact ⟨rfl, ⟨(powD d).wr, rfl⟩, hc.powD⟩
theorem rqR_sw {d : ED} (ha : Dall d) : ∀ r ∈ (sw d).ps, rqR (sw d) r := fun r hr => by
  obtain ⟨x, hx, rfl⟩ := List.mem_map.1 hr
  have h := ha.ok.rq x hx
  obtain ⟨ri, rk, rn, rb⟩ := x
  have hk := h.k
  simp only at hk
  refine ⟨fun hk2 => ?_, fun hk2 => ?_⟩
  · rcases hk with rfl | rfl | rfl
    · exact h.n (show (0 : Int) ≠ 2 by decide)
    · exact h.n (show (1 : Int) ≠ 2 by decide)
    · rcases hk2 with h2 | h2 <;> exact absurd (show (2 : Int) = _ from h2) (by decide)
  · rcases hk with rfl | rfl | rfl
    · exact h.b rfl
    · exact absurd (show (0 : Int) = 1 from hk2) (by decide)
    · exact absurd (show (2 : Int) = 1 from hk2) (by decide)
theorem crK_sw (d : ED) (P : List Int) : ∀ k, crK (sw d) P k = crK d P k
  | 0 => rfl
  | k + 1 => by
    unfold crK
    rw [crK_sw d P k]; rfl
theorem crashD_sw (d : ED) (P : List Int) : crashD (sw d) P = crashD d P := by unfold crashD; rw [crK_sw]; rfl
/-- What holds between the acts. -/
structure DI (N i : Nat) (d : ED) : Prop where
  all : Dall d
  cl : Cl d
  len : d.dy.length = N
  last : d.last ≤ i
  ps : d.ps.length ≤ i
theorem askD_last (d : ED) (k n : Int) (b : List UInt8) : (askD d k n b).last ≤ d.last + 1 ∧ (askD d k n b).ps.length ≤ d.ps.length + 1 ∧ (askD d k n b).dy = d.dy := by
  have h := powD_same d
  have hl : (powD d).last = d.last := by unfold powD; split <;> rfl
  unfold askD
  split
  · exact ⟨Int.le_refl _, by rw [List.length_append]; exact Nat.le_refl _, h.2.2.1⟩
  · refine ⟨by rw [hl]; omega, by rw [h.2.2.2.2.1]; omega, h.2.2.1⟩
theorem DI.ask {N i : Nat} {d : ED} (h : DI N i d) (k n : Int) (b : List UInt8) (hk : k = 0 ∨ k = 1 ∨ k = 2) (hn : k = 2 → n = 0) (hi : i ≤ 90000) : DI N (i + 1) (askD d k n b) := by
  have h1 := askD_last d k n b
  have h2 := h.last
  have h3 := h.ps
  exact ⟨h.all.ask k n b hk hn (by omega) (by omega), h.cl.askD k n b, by rw [h1.2.2]; exact h.len, by omega, by omega⟩
theorem DI.comp {N i : Nat} {d : ED} (h : DI N i d) (n : Int) : DI N (i + 1) (compD d n) := by
  have h2 := h.last
  have h3 := h.ps
  have hp := powD_same d
  have hl : (powD d).last = d.last := by unfold powD; split <;> rfl
  refine ⟨h.all.comp n, (comp_sw h.all h.cl n).2.2, ?_, ?_, ?_⟩
  · unfold compD
    split
    · rw [(perfD_len _ _).1]; show (powD d).dy.length = N; rw [hp.2.2.1]; exact h.len
    · rw [hp.2.2.1]; exact h.len
  · unfold compD
    split
    · rw [(perfD_pow _ _).2.2.2]; show (powD d).last ≤ _; omega
    · omega
  · unfold compD
    split
    · rw [(perfD_len _ _).2]; show (d.ps.eraseIdx n.toNat).length ≤ _; have := List.length_eraseIdx_le d.ps n.toNat; omega
    · rw [hp.2.2.2.2.1]; omega
theorem DI.off {N i : Nat} {d : ED} (h : DI N i d) (n : Int) (hn : n < 9223372036854775808) : DI N (i + 1) (offD d n) := by
  have h2 := h.last
  have h3 := h.ps
  exact ⟨h.all.off n hn, h.cl.offD n, h.len, by show d.last ≤ _; omega, by show d.ps.length ≤ _; omega⟩
theorem crashD_len {d : ED} (h : Dall d) (P : List Int) : (crashD d P).length = d.dy.length * 64 := (crK_len h.ok.inv P d.dy.length (Nat.le_refl _)).trans h.ok.inv.hd
theorem crashD_ok {d : ED} (h : Dall d) (P : List Int) : newOK (crashD d P) = true := by
  have h1 := h.ok.inv.n1
  have h2 := h.ok.inv.n2
  have h3 := crashD_len h P
  unfold newOK
  rw [h3]
  simp
  omega
theorem DI.new {N i : Nat} {b : List UInt8} (h : newOK b = true) (hN : b.length / 64 = N) : DI N i (newD b) :=
  ⟨Dall.new h, Cl.new b, by show (List.replicate (b.length / 64) false).length = N; rw [List.length_replicate]; exact hN, by show (0 : Int) ≤ i; omega, Nat.zero_le _⟩
theorem DI.crash {N i : Nat} {d : ED} (h : DI N i d) (P : List Int) : DI N (i + 1) (newD (crashD d P)) :=
  DI.new (crashD_ok h.all P) (by rw [crashD_len h.all P, h.len]; omega)
/-! what a call leaves of the two -/
abbrev TP (B : Nat) (H : List Nat) (q q' : Nat) (w : World) (d r : ED) (w' : World) : Prop := Two B H q q' d r w' ∧ Kz H w w' ∧ Below B w w'
section
variable {B q q' : Nat} {H : List Nat} {d d0 r : ED} {w : World}
theorem tWrite {n : Int} {va : Option Addr} {vc m : Nat} {b : List UInt8} (hT : Two B H q q' d r w) (ha : Dall d) (hD : ∀ X, Kz H w X → Below B w X → Sl X (.slice va m vc) b) (hm : b.length = m) (hbl : m ≤ 1000000) :
    Calls Try.prog 46 #[.pointer (some ⟨q, 0, none⟩), .int .i64 n, .slice va m vc] w fun z w' => z = .returned (.tuple #[.int .i64 (askI d 0 n m), .int .i64 (askE d 0 n m)]) ∧ TP B H q q' w (askD d 0 n b) r w' := by
  obtain ⟨hs, hH, hq, hM, hA, -⟩ := hT.afterD
  refine (dWrite hM hq ha (fun X h1 h2 => hD X (h1.sub hH) h2) hm hbl rfl rfl rfl).mono ?_
  rintro z w' ⟨h1, h2, h3, h4⟩
  exact ⟨h1, hA _ _ h2 h3, h3.sub hH, h4⟩
theorem tRead {n : Int} (hT : Two B H q q' d r w) (ha : Dall d) :
    Calls Try.prog 35 #[.pointer (some ⟨q, 0, none⟩), .int .i64 n] w fun z w' => z = .returned (.tuple #[.int .i64 (askI d 1 n 0), .int .i64 (askE d 1 n 0)]) ∧ TP B H q q' w (askD d 1 n []) r w' := by
  obtain ⟨hs, hH, hq, hM, hA, -⟩ := hT.afterD
  refine (dRead hM hq ha rfl rfl rfl).mono ?_
  rintro z w' ⟨h1, h2, h3, h4⟩
  exact ⟨h1, hA _ _ h2 h3, h3.sub hH, h4⟩
theorem tFlush (hT : Two B H q q' d r w) (ha : Dall d) :
    Calls Try.prog 37 #[.pointer (some ⟨q, 0, none⟩)] w fun z w' => z = .returned (.tuple #[.int .i64 (askI d 2 0 0), .int .i64 (askE d 2 0 0)]) ∧ TP B H q q' w (askD d 2 0 []) r w' := by
  obtain ⟨hs, hH, hq, hM, hA, -⟩ := hT.afterD
  refine (dFlush hM hq ha rfl rfl rfl).mono ?_
  rintro z w' ⟨h1, h2, h3, h4⟩
  exact ⟨h1, hA _ _ h2 h3, h3.sub hH, h4⟩
theorem tOff (n : Int) (hT : Two B H q q' d r w) :
    Calls Try.prog 41 #[.pointer (some ⟨q, 0, none⟩), .int .i64 n] w fun z w' => z = .returned (.tuple #[]) ∧ TP B H q q' w (offD d n) r w' := by
  obtain ⟨hs, hH, hq, hM, hA, -⟩ := hT.afterD
  refine (dOff n hM hq).mono ?_
  rintro z w' ⟨h1, h2, h3, h4⟩
  exact ⟨h1, hA _ _ h2 h3, h3.sub hH, h4⟩
theorem tComplete {n : Int} (hT : Two B H q q' d r w) (ha : Dall d) :
    Calls Try.prog 39 #[.pointer (some ⟨q, 0, none⟩), .int .i64 n] w fun z w' => ∃ a c, z = .returned (.tuple #[.int .i64 (compI d n), .slice a (compB d n).length c, .int .i64 (compE d n)]) ∧ TP B H q q' w (compD d n) r w' ∧ w'.ownsRow w.heap.size 5 1 (.slice a (compB d n).length c) (compB d n).length ((compB d n).map B8) ∧ ∀ k, (Value.slice a (compB d n).length c).ownBlock = some k → Two B (k :: H) q q' (compD d n) r w' := by
  obtain ⟨hs, hH, hq, hM, hA, hA2⟩ := hT.afterD
  refine (dComplete hM hq ha rfl rfl rfl rfl rfl).mono ?_
  rintro z w' ⟨a, c, h1, ⟨h2, h3, h4⟩, h5, h6⟩
  exact ⟨a, c, h1, ⟨hA _ _ h2 h3, h3.sub hH, h4⟩, h5, fun k hk => hA2 _ _ k (h6 k hk) h3 (blk_lt h5 hk).1⟩
theorem tCrash {P : List Int} {va : Option Addr} {vc pn : Nat} (hT : Two B H q q' d r w) (ha : Dall d) (hpn : P.length = pn) (hP : ∀ X, Kz H w X → Below B w X → SlR X 1 (.slice va pn vc) (P.map intR)) :
    Calls Try.prog 43 #[.pointer (some ⟨q, 0, none⟩), .slice va pn vc] w fun z w' => ∃ a c, z = .returned (.slice a (crashD d P).length c) ∧ TP B H q q' w ({ d with off := true } : ED) r w' ∧ w'.ownsRow w.heap.size 5 1 (.slice a (crashD d P).length c) (crashD d P).length ((crashD d P).map B8) ∧ ∀ k, (Value.slice a (crashD d P).length c).ownBlock = some k → Two B (k :: H) q q' ({ d with off := true } : ED) r w' := by
  obtain ⟨hs, hH, hq, hM, hA, hA2⟩ := hT.afterD
  refine (dCrash hM hq ha hpn (fun X h1 h2 => hP X (h1.sub hH) h2) rfl rfl).mono ?_
  rintro z w' ⟨a, c, h1, ⟨h2, h3, h4⟩, h5, h6⟩
  exact ⟨a, c, h1, ⟨hA _ _ h2 h3, h3.sub hH, h4⟩, h5, fun k hk => hA2 _ _ k (h6 k hk) h3 (blk_lt h5 hk).1⟩
theorem tPending (hT : Two B H q q' d r w) (hl : d.ps.length ≤ 100000) :
    Calls Try.prog 48 #[.pointer (some ⟨q, 0, none⟩)] w fun z w' => ∃ a c, z = .returned (.slice a d.ps.length c) ∧ Below w.heap.size w w' ∧ w'.ownsRow w.heap.size 3 1 (.slice a d.ps.length c) d.ps.length (idsV d.ps) := by
  obtain ⟨hs, hH, hq, hM, -, -⟩ := hT.afterD
  refine (pending_any hM hq hl).mono ?_
  rintro z w' ⟨v, h1, h2, h3⟩
  obtain ⟨a, c, rfl⟩ := own_slice h3
  exact ⟨a, c, h1, h2, h3⟩
theorem tSectors (hT : Two B H q q' d r w) :
    Calls Try.prog 51 #[.pointer (some ⟨q, 0, none⟩)] w fun z w' => z = .returned (.int .i64 (d.dy.length : Int)) ∧ w = w' := by
  obtain ⟨hs, hH, hq, hM, -, -⟩ := hT.afterD
  obtain ⟨an, cn, ad, cd, ay, cy, aw, cw, ap, cp, PL, h1, -⟩ := hM
  exact sectors_any q cy ay _ _ _ _ w h1
/-! the page's -/
theorem uWrite {n : Int} {va : Option Addr} {vc m : Nat} {b : List UInt8} (hT : Two B H q q' d (sw d0) w) (ha : Dall d0) (hD : ∀ X, Kz H w X → Below B w X → Sl X (.slice va m vc) b) (hm : b.length = m) (hbl : m ≤ 1000000) :
    Calls Try.prog 47 #[.pointer (some ⟨q', 0, none⟩), .int .i64 n, .slice va m vc] w fun z w' => z = .returned (.tuple #[.int .i64 (askI d0 0 n m), .int .i64 (askE d0 0 n m)]) ∧ TP B H q q' w d (sw (askD d0 0 n b)) w' := by
  subst hm
  obtain ⟨hs, hH, hq, hM, hA⟩ := hT.afterR
  refine (rwrite_any hM hq ha.arm ha.last (fun X h1 h2 => hD X (h1.sub hH) h2) hbl).mono ?_
  rintro z w' ⟨h1, h2, h3, h4⟩
  rw [raskI_sw (may_w d0 n b.length), raskE_sw2 (may_w d0 n b.length)] at h1
  rw [raskD_sw (show swk 0 = 1 from rfl) (may_w d0 n b.length)] at h2
  exact ⟨h1, hA _ _ h2 h3, h3.sub hH, h4⟩
theorem uRead {n : Int} (hT : Two B H q q' d (sw d0) w) (ha : Dall d0) :
    Calls Try.prog 36 #[.pointer (some ⟨q', 0, none⟩), .int .i64 n] w fun z w' => z = .returned (.tuple #[.int .i64 (askI d0 1 n 0), .int .i64 (askE d0 1 n 0)]) ∧ TP B H q q' w d (sw (askD d0 1 n [])) w' := by
  obtain ⟨hs, hH, hq, hM, hA⟩ := hT.afterR
  refine (rread_any hM hq ha.arm ha.last).mono ?_
  rintro z w' ⟨h1, h2, h3, h4⟩
  rw [raskI_sw (may_r d0 n), raskE_sw2 (may_r d0 n)] at h1
  rw [raskD_sw (b := []) (show swk 1 = 0 from rfl) (may_r d0 n)] at h2
  exact ⟨h1, hA _ _ h2 h3, h3.sub hH, h4⟩
theorem uFlush (hT : Two B H q q' d (sw d0) w) (ha : Dall d0) :
    Calls Try.prog 38 #[.pointer (some ⟨q', 0, none⟩)] w fun z w' => z = .returned (.tuple #[.int .i64 (askI d0 2 0 0), .int .i64 (askE d0 2 0 0)]) ∧ TP B H q q' w d (sw (askD d0 2 0 [])) w' := by
  obtain ⟨hs, hH, hq, hM, hA⟩ := hT.afterR
  refine (rflush_any hM hq ha.arm ha.last).mono ?_
  rintro z w' ⟨h1, h2, h3, h4⟩
  rw [raskI_sw (may_f d0 0), raskE_sw2 (may_f d0 0)] at h1
  rw [raskD_sw (b := []) (show swk 2 = 2 from rfl) (may_f d0 0)] at h2
  exact ⟨h1, hA _ _ h2 h3, h3.sub hH, h4⟩
theorem uOff (n : Int) (hT : Two B H q q' d (sw d0) w) :
    Calls Try.prog 42 #[.pointer (some ⟨q', 0, none⟩), .int .i64 n] w fun z w' => z = .returned (.tuple #[]) ∧ TP B H q q' w d (sw (offD d0 n)) w' := by
  obtain ⟨hs, hH, hq, hM, hA⟩ := hT.afterR
  refine (rdoff_any n hM hq).mono ?_
  rintro z w' ⟨h1, h2, h3, h4⟩
  exact ⟨h1, hA _ _ h2 h3, h3.sub hH, h4⟩
theorem uComplete {n : Int} (hT : Two B H q q' d (sw d0) w) (ha : Dall d0) (hc : Cl d0) :
    Calls Try.prog 40 #[.pointer (some ⟨q', 0, none⟩), .int .i64 n] w fun z w' => ∃ a c, z = .returned (.tuple #[.int .i64 (compI d0 n), .slice a (compB d0 n).length c, .int .i64 (compE d0 n)]) ∧ TP B H q q' w d (sw (compD d0 n)) w' ∧ w'.ownsRow w.heap.size 5 1 (.slice a (compB d0 n).length c) (compB d0 n).length ((compB d0 n).map B8) := by
  obtain ⟨hs, hH, hq, hM, hA⟩ := hT.afterR
  refine (rcomplete_any hM hq ha.arm ha.ok.inv.hn ha.ok.inv.n2 (rqR_sw ha) (by show (d0.ps.map swq).length ≤ 100000; rw [List.length_map]; exact ha.len)).mono ?_
  rintro z w' ⟨v, h1, h2, h3, h4, h5⟩
  obtain ⟨e1, ⟨l, e2⟩, -⟩ := comp_sw ha hc n
  rw [e1] at h5
  rw [compI_sw, compE_sw] at h1
  obtain ⟨a, c, rfl⟩ := own_slice h5
  have h2' := h2.wr l
  rw [e2] at h2'
  exact ⟨a, c, h1, ⟨hA _ _ h2' h3, h3.sub hH, h4⟩, h5⟩
theorem uCrash {P : List Int} {va : Option Addr} {vc pn : Nat} (hT : Two B H q q' d (sw d0) w) (ha : Dall d0) (hpn : P.length = pn) (hP : ∀ X, Kz H w X → Below B w X → SlR X 1 (.slice va pn vc) (P.map intR)) :
    Calls Try.prog 45 #[.pointer (some ⟨q', 0, none⟩), .slice va pn vc] w fun z w' => ∃ a c, z = .returned (.slice a (crashD d0 P).length c) ∧ TP B H q q' w d ({ sw d0 with off := true } : ED) w' ∧ w'.ownsRow w.heap.size 5 1 (.slice a (crashD d0 P).length c) (crashD d0 P).length ((crashD d0 P).map B8) := by
  subst hpn
  obtain ⟨hs, hH, hq, hM, hA⟩ := hT.afterR
  refine (rcrash_any hM hq (ha.ok.inv.congr rfl rfl rfl rfl) (fun X h1 h2 => hP X (h1.sub hH) h2)).mono ?_
  rintro z w' ⟨v, h1, h2, h3, h4, h5⟩
  rw [crashD_sw] at h5
  obtain ⟨a, c, rfl⟩ := own_slice h5
  exact ⟨a, c, h1, ⟨hA _ _ h2 h3, h3.sub hH, h4⟩, h5⟩
theorem uPending (hT : Two B H q q' d (sw d0) w) (hl : d0.ps.length ≤ 100000) :
    Calls Try.prog 50 #[.pointer (some ⟨q', 0, none⟩)] w fun z w' => ∃ a c, z = .returned (.slice a d0.ps.length c) ∧ Below w.heap.size w w' ∧ w'.ownsRow w.heap.size 3 1 (.slice a d0.ps.length c) d0.ps.length (idsV d0.ps) := by
  obtain ⟨hs, hH, hq, hM, -⟩ := hT.afterR
  refine (rpending_any hM (by show (d0.ps.map swq).length ≤ 100000; rw [List.length_map]; exact hl)).mono ?_
  rintro z w' ⟨v, h1, h2, h3⟩
  have e : (sw d0).ps.map (·.id) = d0.ps.map (·.id) := by show (d0.ps.map swq).map _ = _; rw [List.map_map]; rfl
  rw [e] at h3
  unfold InOwn at h3
  rw [← ids_in, List.length_map] at h3
  obtain ⟨a, c, rfl⟩ := own_slice h3
  exact ⟨a, c, h1, h2, h3⟩
end
/-! a value of our own, which is held -/
abbrev obl (v : Value) : List Nat := v.ownBlock.toList
theorem obl_mem {v : Value} {H : List Nat} : ∀ k, v.ownBlock = some k → k ∈ obl v ++ H := fun _ hk => by simp [obl, hk]
theorem Kz.ownv {H : List Nat} {W W' : World} {v : Value} {B e sz n : Nat} {xs : List Value} (h : Kz H W W') (ho : W.ownsRow B e sz v n xs) (hm : ∀ k, v.ownBlock = some k → k ∈ H) : W'.ownsRow B e sz v n xs := Kz.at_ (r := ⟨e, sz, v, n, xs⟩) h ho hm
section
variable {B q q' : Nat} {H : List Nat} {d r : ED} {W W' W0 : World} {v y : Value} {e sz n e2 sz2 n2 X : Nat} {xs ys : List Value}
theorem Two.holdv (h : Two B H q q' d r W) (hb : Below W.heap.size W W') (ho : W'.ownsRow W.heap.size e sz v n xs) : Two B (obl v ++ H) q q' d r W' := by
  cases hv : v.ownBlock with
  | none => rw [show obl v = [] by simp [obl, hv]]; exact h.below hb
  | some k => rw [show obl v = [k] by simp [obl, hv]]; exact h.hold hb (blk_lt ho hv).1 (blk_lt ho hv).2
theorem Two.holda (h : Two B H q q' d r W) (h2 : ∀ k, v.ownBlock = some k → Two B (k :: H) q q' d r W) : Two B (obl v ++ H) q q' d r W := by
  cases hv : v.ownBlock with
  | none => rw [show obl v = [] by simp [obl, hv]]; exact h
  | some k => rw [show obl v = [k] by simp [obl, hv]]; exact h2 k hv
theorem Two.grown {g : Option Nat} (h : Two B H q q' d r W) (s : W.grownBy W' g) (hg : ∀ k, g = some k → k ∈ H) : Two B H q q' d r W' := by
  cases g with
  | none => exact h.below ⟨s.os, s.tape, s.output, s.size, fun k hk => s.block k hk (fun e => nomatch e)⟩
  | some k => exact h.chg s (hg k rfl)
/-- A disk whose base is above what is written. -/
theorem Dk.low {g : Option Nat} (h : Dk B H q d W) (s : W.grownBy W' g) (hg : ∀ k, g = some k → k < B) : Dk B H q d W' := by
  obtain ⟨an, cn, ad, cd, ay, cy, aw, cw, ap, cp, PL, h1, h2, h3, h4⟩ := h
  refine ⟨an, cn, ad, cd, ay, cy, aw, cw, ap, cp, PL, rowAt_keep h1 s (fun e => by have := hg q e.symm; omega), h2, h3, fun r hr => own_stay (h4.at_ r hr) s (fun k hk e => ?_), h4.two, fun k hk => ⟨Nat.lt_of_lt_of_le (h4.held k hk).1 s.size, (h4.held k hk).2⟩⟩
  have := hg k e.symm
  have := (blk_lt (h4.at_ r hr) hk).1
  omega
/-- Two values of our own, the one older: the older is written. -/
theorem own_apart (hy : W.ownsRow X e2 sz2 y n2 ys) (s : W.grownBy W' v.ownBlock) (hv : ∀ k, v.ownBlock = some k → k < X) : W'.ownsRow X e2 sz2 y n2 ys :=
  own_stay hy s (fun k hk e => by have := hv k e.symm; have := (blk_lt hy hk).1; omega)
theorem row_apart {q : Nat} {vs : List Value} (hr : RowAt W q vs) (s : W.grownBy W' v.ownBlock) (hv : ∀ k, v.ownBlock = some k → q < k) : RowAt W' q vs :=
  rowAt_keep hr s (fun e => by have := hv q e.symm; omega)
theorem below_v (h : Below X W0 W) (s : W.grownBy W' v.ownBlock) (hv : ∀ k, v.ownBlock = some k → X ≤ k) (hX : X ≤ W.heap.size) : Below X W0 W' := below_grown h s hv hX
theorem blk_ge (ho : W'.ownsRow X e sz v n xs) {Y : Nat} (h : Y ≤ X) : ∀ k, v.ownBlock = some k → Y ≤ k := fun _ hk => Nat.le_trans h (blk_lt ho hk).1
theorem blk_gt (ho : W'.ownsRow X e sz v n xs) {Y : Nat} (h : Y < X) : ∀ k, v.ownBlock = some k → Y < k := fun _ hk => Nat.lt_of_lt_of_le h (blk_lt ho hk).1
theorem blk_up (ho : W.ownsRow X e sz v n xs) {Y : Nat} (h : W.heap.size ≤ Y) : ∀ k, v.ownBlock = some k → k < Y := fun _ hk => Nat.lt_of_lt_of_le (blk_lt ho hk).2 h
end
/-! answers alike -/
theorem eqB_any {v1 v2 : Value} {l : List UInt8} {w : World} (hl : l.length ≤ 1000000) (h1 : Sl w v1 l) (h2 : Sl w v2 l) : Calls Try.prog 18 #[v1, v2] w fun e w' => e = .returned (.bool true) ∧ Below w.heap.size w w' := by
  refine (eqBytes_any v1 v2 l l w hl hl h1 h2).mono ?_
  rintro e w' ⟨rfl, m, rfl⟩
  exact ⟨by simp, bdrew (Below.refl _ _) m⟩
theorem eqN_any {v1 v2 : Value} {l : List Int} {w : World} (hl : l.length ≤ 1000000) (h1 : SlR w 1 v1 (l.map rwI)) (h2 : SlR w 1 v2 (l.map rwI)) : Calls Try.prog 49 #[v1, v2] w fun e w' => e = .returned (.bool true) ∧ Below w.heap.size w w' := by
  refine (eqNumbers_any v1 v2 l l w hl hl h1 h2).mono ?_
  rintro e w' ⟨rfl, m, rfl⟩
  exact ⟨by simp, bdrew (Below.refl _ _) m⟩
abbrev cI (x : Int) : Value := .int .i64 x
theorem ids_cI (l : List Rq) : idsV l = (l.map (·.id)).map cI := by unfold idsV; rw [List.map_map]; rfl
theorem slr_cI {w : World} {B k : Nat} {v : Value} {l : List Int} (h : w.ownsRow B 3 1 v k (l.map cI)) : SlR w 1 v (l.map rwI) := by
  have e : ((l.map rwI).flatten) = l.map cI := flatNumbers l
  rw [← e] at h
  exact (SlR.of_own (by decide) (fun q hq => by obtain ⟨x, -, rfl⟩ := List.mem_map.1 hq; rfl) h).1
theorem len_cI {w : World} {B k : Nat} {v : Value} {l : List Int} (h : w.ownsRow B 3 1 v k (l.map cI)) : k = l.length := by have := h.1; simpa using this.symm
set_option maxRecDepth 100000 in
set_option maxHeartbeats 2000000 in
/-- Numbers written over: that block alone is another. -/
theorem scribbleN_any (base n : Nat) (v : Value) (l : List Int) (w : World) (hown : w.ownsRow base 3 1 v n (l.map cI)) (hn : n ≤ 1000000) (hbase : base ≤ w.heap.size) :
    Calls Try.prog 52 #[v] w fun e w' => e = .returned (.tuple #[]) ∧ w.grownBy w' v.ownBlock := by
  obtain ⟨i0, hi, hz0, hz1, hz2⟩ := info_parts infoIn
  have hl : n = l.length := len_cI hown
  obtain ⟨ao, cap, rfl⟩ := own_slice hown
  go_enter Try.func52, Try.ntmps52
  go_wp2
  go_loopw [2] (fun i wr => ∃ k : Nat, k ≤ n ∧ i = .int .i64 k ∧ w.grownBy wr (Value.slice ao n cap).ownBlock ∧ ∃ xs : List Int, xs.length = n ∧ wr.ownsRow base 3 1 (.slice ao n cap) n (xs.map cI)) (fun i _ => n - (intOf i).toNat)
  case atStart => exact ⟨0, by omega, rfl, grown_refl _ _, l, hl.symm, hown⟩
  case round =>
    obtain ⟨k, hk, rfl, hbl, xs, hxl, ho⟩ := hrel
    clear hown
    by_cases hlt : k < n
    · obtain ⟨g, rfl⟩ := own_ptr ho (by omega)
      obtain ⟨hcap, hmax, hbg⟩ := own_caps ho
      obtain ⟨x, hx⟩ : ∃ x, xs[k]? = some x := ⟨_, List.getElem?_eq_getElem (by omega)⟩
      have hc : wr.cell? ⟨g, k, none⟩ = some (.int .i64 x) := by
        rw [ho.cellAt k (by omega), List.getElem?_map, hx]; rfl
      have hfz := ho.frozenAt k
      have HO := Lib.hid ho; have HX := Lib.hid hxl; have HBL := Lib.hid hbl
      clear ho hxl hbl hx
      go_wp2
      go_roundw
      case rel =>
        refine ⟨k + 1, by omega, by go_num, grown_set HBL.out, xs.set k (-99), by simp [HX.out], ?_⟩
        have := HO.out.stored k (cI (-99))
        rw [List.map_set]
        exact this.1
      case measure => simp [intOf]; omega
    · have HB := Lib.hid hbl; clear hbl
      have hsz := HB.out.size
      go_wp2_with (first
        | (at_builtin; refine wpList_append_at _ rfl _ _ 55 rfl base 3 i0 (.int .i64 0) 1 8 Try.underlying55 hi hz0 hz1 hz2 rfl (by decide) _ _ _ rfl (ho.alloc _) ⟨wr.heap.size, 0, none⟩ 1 1 [cI 5] rfl rfl ?c1 ?c2 ?c3 ?c4 ?c5 ?_))
      case c1 =>
        intro t u hj
        match t, hj with
        | 0, hj => simp at hj; subst hj; simp [Addr.add]
      case c2 => intro u hu; simp at hu; subst hu; rfl
      case c3 => unfold maxLen; omega
      case c4 => omega
      case c5 => simp; omega
      intro v' w1 hown' hgrow hat
      go_wp2
      refine bodyPost_end (v := .tuple #[]) (by simp [results, Try.results52]) rfl ⟨rfl, ?_⟩
      have hB2 : w.grownBy wr (Value.slice ao l.length cap).ownBlock := by have h := HB.out; rw [hl] at h; exact h
      have hgr : Grew wr w1 (.slice ao l.length cap) v' := (Grew.refl _ _).app hgrow hat
      have h1 : Grew w wr (.slice ao l.length cap) (.slice ao l.length cap) := ⟨hB2, .inl rfl⟩
      have h2 := (h1.trans hgr).1
      first | exact h2 | (rw [hl]; exact h2)
set_option maxRecDepth 100000 in
set_option maxHeartbeats 1000000 in
theorem copyNumbers_any (v : Value) (l : List Int) (w : World) (hl : l.length ≤ 1000000) (hv : SlR w 1 v (l.map rwI)) :
    Calls Try.prog 44 #[v] w fun e w' => ∃ v', e = .returned v' ∧ Below w.heap.size w w' ∧ w'.ownsRow w.heap.size 3 1 v' l.length (l.map (fun x => (.int .i64 x : Value))) := by
  obtain ⟨ao, cap, rfl, -, -, -, hB⟩ := hv
  simp only [List.length_map] at hB ⊢
  have HB := Lib.hid hB; clear hB
  obtain ⟨i0, hi, hz0, hz1, hz2⟩ := info_parts infoIn
  go_enter Try.func44, Try.ntmps44
  go_wp2
  go_loopw [3, 4] (fun m i wr => ∃ (k : Nat), k ≤ l.length ∧ i = .int .i64 k ∧ Below w.heap.size w wr ∧ wr.ownsRow w.heap.size 3 1 m k ((l.take k).map (fun x => (.int .i64 x : Value)))) (fun _ i _ => l.length - (intOf i).toNat)
  case atStart => exact ⟨0, by omega, rfl, Below.refl _ _, World.ownsRow_nil _ _ _ _⟩
  case round =>
    obtain ⟨k, hk, rfl, hbl, hown⟩ := hrel
    by_cases hlt : k < l.length
    · obtain ⟨b, off, rfl, hbw, hBB⟩ := HB.out (by intro h; simp at h; simp [h] at hlt)
      obtain ⟨x, hx⟩ : ∃ x, l[k]? = some x := ⟨_, List.getElem?_eq_getElem hlt⟩
      have hcx : w.cell? ⟨b, off + k, none⟩ = some (.int .i64 x) := by
        have := hBB k (rwI x) (by rw [List.getElem?_map, hx]; rfl) 0 _ rfl
        simpa using this
      have hcx' := (hbl.cell (p := ⟨b, off + k, none⟩) hbw).trans hcx
      have HX := Lib.hid hx; clear hx hBB hcx
      have hsz := hbl.size
      go_wp2_with (first
        | (at_builtin; refine wpList_append_own _ rfl _ _ 55 rfl w.heap.size 3 i0 (.int .i64 0) 1 8 Try.underlying55 hi hz0 hz1 hz2 rfl (by decide) _ _ _ rfl (hown.alloc _) ⟨wr.heap.size, 0, none⟩ 1 1 [.int .i64 x] rfl rfl ?c1 ?c2 ?c3 ?c4 ?c5 ?_))
      case c1 =>
        intro j u hj
        match j, hj with
        | 0, hj => simp at hj; subst hj; simp [Addr.add]
      case c2 => intro u hu; simp at hu; subst hu; rfl
      case c3 => unfold maxLen; omega
      case c4 => omega
      case c5 => simp; omega
      intro v' w1 hown' hgrow _
      have hb2 : Below w.heap.size w w1 := (hbl.alloc hbl.size _).grown hgrow (by simp; omega) (by intro k hk; exact (hown.lt k hk).1)
      have ho2 : w1.ownsRow w.heap.size 3 1 v' (k + 1) ((l.take (k+1)).map (fun x => (.int .i64 x : Value))) := by
        rw [List.take_succ_eq_append_getElem (by omega), List.map_append]
        have : l[k] = x := by have := HX.out; rw [List.getElem?_eq_getElem hlt] at this; simpa using this
        rw [this, List.map_take]; exact hown'
      clear hown' hgrow hown HX
      go_wp2
      go_roundw
      case rel => exact ⟨k + 1, by omega, by go_num, hb2, ho2⟩
      case measure => simp [intOf]; omega
    · have : k = l.length := by omega
      subst this
      rw [List.take_length] at hown
      clear HB
      go_wp2
      go_ret
      exact ⟨_, rfl, hbl, hown⟩

theorem copyN_any {va : Option Addr} {vc : Nat} {l : List Int} {w : World} (hl : l.length ≤ 1000000) (hv : SlR w 1 (.slice va l.length vc) (l.map intR)) :
    Calls Try.prog 44 #[.slice va l.length vc] w fun e w' => ∃ a c, e = .returned (.slice a l.length c) ∧ Below w.heap.size w w' ∧ w'.ownsRow w.heap.size 3 1 (.slice a l.length c) l.length (l.map cI) := by
  refine (copyNumbers_any _ l w hl hv).mono ?_
  rintro e w' ⟨v', rfl, hb, ho⟩
  obtain ⟨a, c, rfl⟩ := own_slice ho
  exact ⟨a, c, rfl, hb, ho⟩
theorem copyB_any {va : Option Addr} {vc n : Nat} {l : List UInt8} {w : World} (hn : l.length = n) (hl : n ≤ 1000000) (hv : Sl w (.slice va n vc) l) :
    Calls Try.prog 14 #[.slice va n vc] w fun e w' => ∃ a c, e = .returned (.slice a n c) ∧ Below w.heap.size w w' ∧ w'.ownsRow w.heap.size 5 1 (.slice a n c) n (l.map B8) := by
  subst hn
  refine (copyBytes_any _ l w hl hv).mono ?_
  rintro e w' ⟨v', rfl, hb, ho⟩
  obtain ⟨a, c, rfl⟩ := own_slice ho
  exact ⟨a, c, rfl, hb, ho⟩
/-! a new disk -/
theorem newF_any {b : List UInt8} {va : Option Addr} {vc : Nat} {w : World} (hSl : Sl w (.slice va b.length vc) b) (hbl : b.length ≤ 1000000) (h : newOK b = false) :
    Calls Try.prog 30 #[.slice va b.length vc] w fun e w' => e = .returned (.tuple #[.pointer none, .int .i64 1]) ∧ w = w' := by
  refine (new_any hSl hbl).mono ?_
  rintro e w' (⟨-, h1, h2⟩ | ⟨h1, -⟩)
  · exact ⟨h1, h2⟩
  · rw [h] at h1; cases h1
/-! the script -/
structure A4.AtB (w : World) (b off : Nat) (a : A4) : Prop where
  at_ : A4.At w b off a
  n : a.n < 9223372036854775808
set_option maxRecDepth 100000 in
theorem acts4_ofB {W : World} {cs : List Value} (h : RdZ Try.prog W 46 cs) : ∃ aL L cL, cs = [.slice aL L.length cL] ∧ SlOf W 4 A4.AtB (.slice aL L.length cL) L ∧ L.length ≤ far := by
  obtain ⟨v', L, rfl, hS, hb⟩ := h.slOf (p := A4.AtB) (size := 4) Try.underlying46 (by kernel_rfl) (by decide) (by
    intro b off cs' hb hc hr
    obtain ⟨hlen, hf⟩ := hr.struct Try.underlying57
    match cs', hc.1 with
    | [c0, c1, c2, c3], _ =>
      obtain ⟨x0, h0, -⟩ := (hf 0 _ rfl).rd.i64 Try.underlying3
      obtain rfl : c0 = .int .i64 x0 := by simpa [c4I] using h0
      obtain ⟨x1, h1, -, hx1⟩ := (hf 1 _ rfl).rd.i64 Try.underlying3
      obtain rfl : c1 = .int .i64 x1 := by simpa [c4I] using h1
      obtain ⟨v2, x2, h2, hX, hxl⟩ := (hf 2 _ rfl).bytes Try.underlying29 (by kernel_rfl) (by kernel_rfl) Try.underlying5
      obtain ⟨a2, k2, rfl⟩ := sl4_form hX
      obtain rfl : c2 = .slice a2 x2.length k2 := by simpa [c4B] using h2
      obtain ⟨v3, x3, h3, hP, hpl⟩ := (show RdZ Try.prog W 55 _ from hf 3 _ rfl).ints4
      obtain ⟨a3, k3, rfl⟩ := slR_form hP
      rw [List.length_map] at h3 hP
      obtain rfl : c3 = .slice a3 x3.length k3 := by simpa [c4P] using h3
      refine ⟨⟨x0, x1, x2, x3⟩, ⟨a2, k2, a3, k3, fun j u hu => ?_, hX, hP, hxl, hpl⟩, hx1⟩
      have hj : j < 4 := by
        rcases Nat.lt_or_ge j 4 with h | h
        · exact h
        · rw [List.getElem?_eq_none (by simpa [A4.row] using h)] at hu; cases hu
      rw [hc.2 j hj]; exact hu)
  obtain ⟨aL, cL, rfl, -⟩ := id hS
  exact ⟨aL, L, cL, rfl, hS, bytes_le hb (by rw [show Try.prog.bytesOf 57 = 64 by kernel_rfl]; decide)⟩
set_option maxRecDepth 100000 in
theorem scr4_ofB {W : World} {cs : List Value} (h : RdZ Try.prog W 48 cs) : ∃ aB B cB aL L cL, cs = [.slice aB (B : List UInt8).length cB, .slice aL (L : List A4).length cL] ∧ Sl W (.slice aB B.length cB) B ∧ B.length ≤ far ∧ SlOf W 4 A4.AtB (.slice aL L.length cL) L ∧ L.length ≤ far := by
  obtain ⟨hlen, hf⟩ := h.struct Try.underlying48
  have h2 : cs.length = 2 := hlen.trans (by kernel_rfl)
  match cs, h2 with
  | [c0, c1], _ =>
    obtain ⟨v0, B, k0, hB, hbl⟩ := (hf 0 _ rfl).bytes Try.underlying29 (by kernel_rfl) (by kernel_rfl) Try.underlying5
    obtain ⟨aB, cB, rfl⟩ := sl4_form hB
    obtain rfl : c0 = .slice aB B.length cB := by simpa [c4B] using k0
    obtain ⟨aL, L, cL, k1, hL, hll⟩ := acts4_ofB (show RdZ Try.prog W 46 _ from hf 1 _ rfl)
    obtain rfl : c1 = .slice aL L.length cL := by simpa [c4L] using k1
    exact ⟨aB, B, cB, aL, L, cL, rfl, hB, hbl, hL, hll⟩
theorem acts4_atB {W : World} {aL : Option Addr} {cL i : Nat} {L : List A4} {x : A4} (h : SlOf W 4 A4.AtB (.slice aL L.length cL) L) (hi : L[i]? = some x) : ∃ b off, aL = some ⟨b, off, none⟩ ∧ b < W.heap.size ∧ A4.AtB W b (off + i * 4) x := by
  obtain ⟨ao, cap, e, h1, h2, h3, h4⟩ := h
  injection e with e1 e2 e3
  obtain ⟨b, off, e4, hb, hq⟩ := h4 (by rintro rfl; simp at hi)
  exact ⟨b, off, e1.trans e4, hb, hq i x hi⟩
theorem ldA4 {W : World} {b o : Nat} {x : A4} {vb vp : Value} (h : ∀ j u, (x.row vb vp)[j]? = some u → W.cell? ⟨b, o + j, none⟩ = some u) : (Instr.loadAt 57 (.pointer (some ⟨b, o, none⟩))).run Try.prog W = .ok (.agg #[.int .i64 x.d, .int .i64 x.n, vb, vp]) W :=
  run_loadVar_mid _ _ _ _ [.int .i64 x.d, .int .i64 x.n, vb, vp] _ (fun j v hj => by simpa using h j v hj) Try.underlying57 rfl (by kernel_rfl)
theorem ld4P {W : World} {b o : Nat} {a : Option Addr} {n c : Nat} (h : W.cell? ⟨b, o, none⟩ = some (.slice a n c)) : (Instr.loadAt 55 (.pointer (some ⟨b, o, none⟩))).run Try.prog W = .ok (.slice a n c) W := by simp [go_sem, Instr.loadAt, h]
theorem idxA4 (b off n cap i : Nat) (hi : i < n) (w : World) : (Instr.indexAt 46 (.slice (some ⟨b, off, none⟩) n cap) (.int .i64 (i : Int))).run Try.prog w = .ok (.pointer (some ⟨b, off + i * 4, none⟩)) w := by
  have h2 : ¬ n ≤ i := by omega
  simp [go_sem, Instr.indexAt, h2]
theorem neqBl (s : Bool) (w : World) : (binOp .neq 4 (.bool s) (.bool s)).run Try.prog w = .ok (.bool false) w := by cases s <;> simp [go_sem]
theorem ptrGn (op : BinOp) (x y : Operand) (w : World) : (eqGuard op 50 x y (.pointer none) (.pointer none)).run Try.prog w = .ok () w := by cases op <;> rfl
theorem ptrEqn (w : World) : (binOp .eql 50 (.pointer none) (.pointer none)).run Try.prog w = .ok (.bool true) w := by simp [go_sem]
set_option maxRecDepth 100000 in
set_option maxHeartbeats 4000000 in
theorem heavy4_any {B : Nat} {n : Nat} {aB aL : Option Addr} {cB cL : Nat} (w : World) : Calls Try.prog 29 #[.agg #[.slice aB B cB, .slice aL n cL]] w fun e w' => ∃ b, e = .returned (.bool b) ∧ (b = false → B ≤ 2560 ∧ n ≤ 200) ∧ Below w.heap.size w w' := by
  have hb0 := Below.refl w.heap.size w
  refine fw_en 13 [(0, .agg #[.slice aB B cB, .slice aL n cL])] Try.func29 rfl Try.ntmps29 rfl ⟨rfl, trivial⟩ ?_
  refine fw_sq ?_
  refine fw_rg rfl ?_
  refine fw_bx rfl (cs := [.slice aB B cB, .slice aL n cL]) rfl ?_
  intro q1 W2 g5 s3 r4
  have := Nat.le_trans hb0.size g5
  have b6 := hb0.trans (s3.mono hb0.size)
  refine fw_pu rfl ?_
  refine fw_dt ?_
  refine fw_sq ?_
  refine fw_rg rfl ?_
  refine fw_pu rfl ?_
  refine fw_ld r4 rfl rfl ?_
  iterate 3 refine fw_pu rfl ?_
  rcases Bool.eq_false_or_eq_true ((decide (2560 < ((B : Nat) : Int)))) with hb_7 | hb_7
  · skip
    refine fw_kn 7 rfl hb_7 ?_
    iterate 6 refine fw_pu rfl ?_
    refine fw_dt ?_
    refine fw_rt ?_
    refine ⟨fun a h => ?_⟩
    exact ow_ret1 rfl h.df (h.g 2 rfl) ⟨_, rfl, fun h => (by cases h), b6⟩
  refine fw_kn 7 rfl hb_7 ?_
  refine fw_pu rfl ?_
  refine fw_ld r4 rfl rfl ?_
  iterate 4 refine fw_pu rfl ?_
  refine fw_dt ?_
  refine fw_rt ?_
  refine ⟨fun a h => ?_⟩
  exact ow_ret1 rfl h.df (h.g 2 rfl) ⟨_, rfl, fun h => ⟨by have h0 := of_decide_eq_false hb_7; omega, by have h0 := of_decide_eq_false h; omega⟩, b6⟩

end Go.Proofs.Ytcglmkcefenjcaa
