/-
  An outbox: operations at given outboxes; wakes.
-/
import Derived.Test.YtcglmkcefenjcaaObF
namespace Go.Proofs.Ytcglmkcefenjcaa
open Go.RowKit Go.Lib
theorem Owns.app {B : Nat} {H : List Nat} {R R2 : List OR} {W W' : World} (h : Owns B H R W) (hb : Below W.heap.size W W') (h2 : Owns W.heap.size [] R2 W') (hB : B ≤ W.heap.size) : Owns B H (R ++ R2) W' := by
  have h' := h.below hb
  refine ⟨fun r hr => ?_, List.pairwise_append.2 ⟨h'.two, h2.two, fun x hx y hy k hk e => ?_⟩, fun k hk => ⟨(h'.held k hk).1, fun r hr e => ?_⟩⟩
  · rcases List.mem_append.1 hr with hr | hr
    · exact h'.at_ r hr
    · exact own_mono (h2.at_ r hr) hB
  · have h3 := (blk_lt (h.at_ x hx) hk).2; have h4 := (blk_lt (h2.at_ y hy) e).1; omega
  · rcases List.mem_append.1 hr with hr | hr
    · exact (h'.held k hk).2 r hr e
    · have h3 := (h.held k hk).1; have h4 := (blk_lt (h2.at_ r hr) e).1; omega
theorem idx0Pk (b off n cap : Nat) (hi : 0 < n) (w : World) : (Instr.indexAt 86 (.slice (some ⟨b, off, none⟩) n cap) (.int .i64 0)).run Try.prog w = .ok (.pointer (some ⟨b, off, none⟩)) w := by
  have h := idxPk b off n cap 0 hi w
  rw [Nat.zero_mul, Nat.add_zero] at h
  exact h
theorem Owns.head {B : Nat} {H : List Nat} {R : List OR} {W : World} {a : Option Addr} {n c : Nat} {x : EPk} {L : List EPk} (h : Owns B H R W) (i : Nat) (hi : R[i]? = some (orP (.slice a n c) (x :: L))) : ∃ b o, a = some ⟨b, o, none⟩ ∧ ∀ j u, (rowPk x)[j]? = some u → W.cell? ⟨b, o + j, none⟩ = some u := by
  obtain ⟨b, o, e, -, h2⟩ := slR_at (Owns.slP h i hi) (i := 0) (q := rowPk x) rfl
  exact ⟨b, o, e, fun j u hj => by have := h2 j u hj; simpa using this⟩
def mR : EMsg := ⟨{ data := #[97] }, { data := #[] }, 1, false⟩
def fR (id : Int) : EFl := ⟨id, mR, false⟩
/-- An operation at outboxes that are given. -/
def At (w : World) (la : Int) (fl : List EFl) (nf : Nat) (qu : List EMsg) (nq : Nat) (ps : List EPk) (np : Nat) (c : Int) (e : Ending) (w' : World) : Prop :=
  ∃ af cf aq cq ap cp, e = .returned (.tuple #[.agg #[.int .i64 la, .slice af nf cf, .slice aq nq cq], .slice ap np cp, .int .i64 c]) ∧ Owns w.heap.size [] (orF (.slice af nf cf) fl :: orM (.slice aq nq cq) qu :: orP (.slice ap np cp) ps :: []) w' ∧ Below w.heap.size w w'
theorem At.of {w w' : World} {la : Int} {fl : List EFl} {qu : List EMsg} {ps : List EPk} {c c' : Int} {nf nq np : Nat} {e : Ending} (h : ResO w ⟨la, fl, qu⟩ ps c e w') (hc : c = c') (h1 : fl.length = nf) (h2 : qu.length = nq) (h3 : ps.length = np) : At w la fl nf qu nq ps np c' e w' := by
  subst hc h1 h2 h3; exact h
def wS : EO := ⟨1, [fR 1], []⟩
theorem wOff (w : World) : Calls Try.prog 54 #[.agg #[.int .i64 0, .slice none 0 0, .slice none 0 0], .agg #[.string { data := #[97] }, .string { data := #[] }, .int .i64 1, .bool false], .bool true] w (At w 1 [fR 1] 1 [] 0 [pubP (fR 1)] 1 0) :=
  (obOffer o0 none none 0 0 0 0 mR true ⟨1, [fR 1], []⟩ [pubP (fR 1)] w (SlR.nil _ _) (SlR.nil _ _) (by decide) (by decide) (by kernel_rfl)).mono fun e w' h => At.of h (by kernel_rfl) rfl rfl rfl
theorem wAck {af aq : Option Addr} {cf cq : Nat} {w : World} (hF : SlR w 6 (.slice af 1 cf) ([fR 1].map rowFl)) (hQ : SlR w 4 (.slice aq 0 cq) (([] : List EMsg).map rowMsg)) : Calls Try.prog 58 #[.agg #[.int .i64 1, .slice af 1 cf, .slice aq 0 cq], .int .i64 1] w (At w 1 [] 0 [] 0 [] 0 0) :=
  (obAck ⟨1, [fR 1], []⟩ af aq 1 0 cf cq 1 ⟨1, [], []⟩ [] w hF hQ (by decide) (by decide) (by kernel_rfl)).mono fun e w' h => At.of h (by kernel_rfl) rfl rfl rfl
set_option maxRecDepth 100000 in
set_option maxHeartbeats 4000000 in
theorem wakes23_any (w : World) : Calls Try.prog 61 #[] w fun e w' => e = .returned (.bool true) ∧ Below w.heap.size w w' := by
  have ho : Owns w.heap.size [] [] w := Owns.nil (fun k hk => nomatch hk)
  have hb0 := Below.refl w.heap.size w
  refine fw_en 56 [] Try.func61 rfl Try.ntmps61 rfl trivial ?_
  refine fw_sq ?_
  refine fw_rg rfl ?_
  refine fw_pu rfl ?_
  refine fw_dt ?_
  refine fw_sq ?_
  refine fw_rg rfl ?_
  refine fw_ex 8 (.agg #[.int .i64 0, .slice none 0 0, .slice none 0 0]) rfl rfl rfl (fun a h => (run_buildOp (vs := #[]) (by simp) (by kernel_rfl))) ?_
  refine fw_ex 9 (.agg #[.string { data := #[97] }, .string { data := #[] }, .int .i64 1, .bool false]) rfl rfl rfl (fun a h => (run_buildOp (bp2 (h.ev rfl) (h.ev rfl)) (by first | kernel_rfl | rfl))) ?_
  refine fw_ca Try.func54 rfl rfl rfl ((wOff w)) ?_
  rintro _ V1 ⟨af2, cf2, aq2, cq2, ap2, cp2, rfl, ho2, hb2⟩
  refine ⟨_, rfl, ?_⟩
  have hoA2 := Owns.app ho hb2 ho2 hb0.size
  have hoB2 : Owns w.heap.size ([]) ((orF (.slice af2 1 cf2) [fR 1]) :: (orM (.slice aq2 0 cq2) []) :: (orP (.slice ap2 1 cp2) [pubP (fR 1)]) :: []) V1 := Owns.sub hoA2 (.cons_cons _ (.cons_cons _ (.cons_cons _ .slnil)))
  have b3 := hb0.trans (hb2.mono hb0.size)
  iterate 4 refine fw_pu rfl ?_
  refine fw_al (t := 79) (u := fun q => .pointer (some ⟨q, 0, none⟩)) 1 [.int .i64 0, .slice none 0 0, .slice none 0 0] rfl rfl rfl (fun a h => (run_allocOp (by simp [go_sem, Instr.alloc]))) ?_
  intro q4 W5 g8 s6 r7
  have := Nat.le_trans b3.size g8
  have b9 := b3.trans (s6.mono b3.size)
  have f10 := (Owns.hold hoB2 s6 g8 r7.2.2)
  refine fw_st r7 rfl rfl ?_
  intro W11 s12 r13
  have b14 := below_chg b9 s12 (by omega) b9.size
  have f15 := (Owns.chg f10 s12 (by simp))
  iterate 2 refine fw_pu rfl ?_
  refine fw_dt ?_
  refine fw_sq ?_
  refine fw_rg rfl ?_
  refine fw_ld r13 rfl rfl ?_
  refine fw_ca Try.func58 rfl rfl rfl ((wAck (w := W11) (Owns.slF f15 0 rfl) (Owns.slM f15 1 rfl))) ?_
  rintro _ V16 ⟨af17, cf17, aq17, cq17, ap17, cp17, rfl, ho17, hb17⟩
  refine ⟨_, rfl, ?_⟩
  have hoA17 := Owns.app f15 hb17 ho17 b14.size
  have hoB17 : Owns w.heap.size (q4 :: []) ((orP (.slice ap2 1 cp2) [pubP (fR 1)]) :: (orF (.slice af17 0 cf17) []) :: (orM (.slice aq17 0 cq17) []) :: (orP (.slice ap17 0 cp17) []) :: []) V16 := Owns.sub hoA17 (.cons _ (.cons _ (.cons_cons _ (.cons_cons _ (.cons_cons _ (.cons_cons _ .slnil))))))
  have b18 := b14.trans (hb17.mono b14.size)
  have r19 := r13.below hb17
  iterate 4 refine fw_pu rfl ?_
  refine fw_al (t := 79) (u := fun q => .pointer (some ⟨q, 0, none⟩)) 4 [.int .i64 0, .slice none 0 0, .slice none 0 0] rfl rfl rfl (fun a h => (run_allocOp (by simp [go_sem, Instr.alloc]))) ?_
  intro q20 W21 g24 s22 r23
  have := Nat.le_trans b18.size g24
  have := r19.lt g24
  have b25 := b18.trans (s22.mono b18.size)
  have r26 := r19.below s22
  have f27 := (Owns.hold hoB17 s22 g24 r23.2.2)
  refine fw_st r23 rfl rfl ?_
  intro W28 s29 r30
  have b31 := below_chg b25 s29 (by omega) b25.size
  have r32 := r26.chg s29 (by omega)
  have f33 := (Owns.chg f27 s29 (by simp))
  iterate 2 refine fw_pu rfl ?_
  refine fw_dt ?_
  refine fw_sq ?_
  refine fw_rg rfl ?_
  refine fw_pu rfl ?_
  refine fw_ca Try.func55 rfl rfl rfl ((num23_any 0 W28)) ?_
  rintro _ _ ⟨rfl, rfl⟩
  refine ⟨(.int .i64 0), rfl, ?_⟩
  iterate 3 refine fw_pu rfl ?_
  refine fw_ca Try.func55 rfl rfl rfl ((num23_any 0 W28)) ?_
  rintro _ _ ⟨rfl, rfl⟩
  refine ⟨(.int .i64 0), rfl, ?_⟩
  iterate 9 refine fw_pu rfl ?_
  obtain ⟨bP34, oP34, rfl, -⟩ := Owns.head f33 0 rfl
  refine fw_ex 35 (.pointer (some ⟨bP34, oP34, none⟩)) rfl rfl rfl (fun a h => (run_indexOp (h.ev rfl) (h.ev rfl) (idx0Pk _ _ _ _ (by decide) _))) ?_
  refine fw_pu rfl ?_
  refine fw_ex 37 (.int .i64 1) rfl rfl rfl (fun a h => (run_loadOp (h.ev rfl) (ldI1 (by obtain ⟨b1, o1, e1, h1⟩ := Owns.head f33 0 rfl; injection e1 with e1; injection e1 with e2 e3; subst e2; subst e3; exact h1 20 _ rfl)))) ?_
  iterate 9 refine fw_pu rfl ?_
  refine fw_ld r30 rfl rfl ?_
  iterate 5 refine fw_pu rfl ?_
  refine fw_ld r30 rfl rfl ?_
  iterate 3 refine fw_pu rfl ?_
  refine fw_dt ?_
  refine fw_rt ?_
  refine ⟨fun a h => ?_⟩
  exact ow_ret1 rfl h.df (h.g 0 rfl) ⟨rfl, b31⟩
end Go.Proofs.Ytcglmkcefenjcaa
