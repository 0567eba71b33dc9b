/-
  An outbox that may be: by the code, by the page.
-/
import Derived.Test.YtcglmkcefenjcaaObB
namespace Go.Proofs.Ytcglmkcefenjcaa
open Go.RowKit
/-- What holds of a message on its way, behind those of T. -/
def okE (T : List EFl) (f : EFl) : Bool := !decide (f.id < 1) && (!decide (65535 < f.id) && (!decide (0 ≤ findO T f.id) && (vaM f.m && !(f.rc && !(f.m.q == 2)))))
def okAt (L : List EFl) (i : Nat) : Bool := match L[i]? with | some f => okE (L.take i) f | none => true
def okF (L : List EFl) : Bool := (List.range L.length).all (okAt L)
def checkO (o : EO) : Bool := !decide (o.last < 0) && (!decide (65535 < o.last) && (!decide (4 < ((o.fl.length : Nat) : Int)) && (!decide (8 < ((o.qu.length : Nat) : Int)) && (okF o.fl && o.qu.all vaM))))
theorem okAt_some {L : List EFl} {i : Nat} {x : EFl} (h : L[i]? = some x) : okAt L i = okE (L.take i) x := by unfold okAt; rw [h]
theorem rng_take {p : Nat → Bool} {i : Nat} (h : (List.range i).all p = true) (hp : p i = true) : (List.range (i + 1)).all p = true := by
  rw [List.range_succ, List.all_append, h]; simp [hp]
theorem rng_no {p : Nat → Bool} {n i : Nat} (hi : i < n) (hp : p i = false) : (List.range n).all p = false := by
  cases h : (List.range n).all p with
  | false => rfl
  | true => rw [List.all_eq_true.1 h i (List.mem_range.2 hi)] at hp; cases hp
theorem slR_take {W : World} {n k c : Nat} {a : Option Addr} {α : Type} {f : α → List Value} {L : List α} (h : SlR W n (.slice a k c) (L.map f)) {i : Nat} (hi : i ≤ L.length) : SlR W n (.slice a i c) ((L.take i).map f) := by
  obtain ⟨ao, cap, e, h1, h2, h3, h4⟩ := h
  injection e with e1 e2 e3
  subst e1; subst e3
  rw [List.length_map] at h1
  have hl : ((L.take i).map f).length = i := by rw [List.length_map, List.length_take]; omega
  refine ⟨_, _, by rw [hl], by rw [hl]; omega, h2, h3, fun hne => ?_⟩
  obtain ⟨b, off, rfl, hb, hB⟩ := h4 (fun hn => hne (by rw [List.map_eq_nil_iff] at hn; subst hn; simp))
  refine ⟨b, off, rfl, hb, fun j q hj => hB j q ?_⟩
  rw [List.map_take, List.getElem?_take] at hj
  split at hj
  · exact hj
  · cases hj
theorem sl_to (b off n c i : Nat) (hi : i ≤ c) (w : World) : (Instr.sliceAt 76 (.slice (some ⟨b, off, none⟩) n c) none (some (.int .i64 (i : Int))) none).run Try.prog w = .ok (.slice (some ⟨b, off, none⟩) i c) w := by
  obtain ⟨i0, hi0, hz0, hz1, hz2⟩ := info_parts infoFl
  exact ro_slice_to _ _ _ Try.underlying76 hi0 _ _ _ _ hi
theorem slR_cap {W : World} {n k c : Nat} {a : Option Addr} {L : List (List Value)} (h : SlR W n (.slice a k c) L) : k ≤ c := by
  obtain ⟨ao, cap, e, h1, -⟩ := h
  injection e with e1 e2 e3
  omega
theorem ldI1 {W : World} {b o : Nat} {x : Int} (h : W.cell? ⟨b, o, none⟩ = some (.int .i64 x)) : (Instr.loadAt 3 (.pointer (some ⟨b, o, none⟩))).run Try.prog W = .ok (.int .i64 x) W := by simp [go_sem, Instr.loadAt, h]
theorem fnd_yes {id : Int} {L : List EFl} {i j : Nat} {x : EFl} (hj : j < i) (ha : (L.take j).all (fun f => !(f.id == id)) = true) (hx : L[j]? = some x) (he : (x.id == id) = true) : decide (0 ≤ findO (L.take i) id) = true := by
  rw [fnd_hit (L := L.take i) (i := j) (x := x) (by rw [List.take_take, Nat.min_eq_left (by omega)]; exact ha) (by rw [List.getElem?_take, if_pos hj]; exact hx) he]
  exact decide_eq_true (by omega)
theorem fnd_none {id : Int} {L : List EFl} {i : Nat} (ha : (L.take i).all (fun f => !(f.id == id)) = true) : decide (0 ≤ findO (L.take i) id) = false := by rw [fnd_no ha]; rfl
theorem cle {a b : Int} (h : decide (a ≤ b) = true) : decide (b < a) = false := by have := of_decide_eq_true h; exact decide_eq_false (by omega)
theorem clf {a b : Int} (h : decide (a ≤ b) = false) : decide (b < a) = true := by have := of_decide_eq_false h; exact decide_eq_true (by omega)
set_option maxRecDepth 100000 in
set_option maxHeartbeats 4000000 in
theorem check_any (o : EO) (af aq : Option Addr) (nf nq cf cq : Nat) (w : World) (hF : SlR w 6 (.slice af nf cf) (o.fl.map rowFl)) (hQ : SlR w 4 (.slice aq nq cq) (o.qu.map rowMsg)) (hlf : o.fl.length ≤ 100000) (hlq : o.qu.length ≤ 100000) :
    Calls Try.prog 86 #[.agg #[.int .i64 o.last, .slice af nf cf, .slice aq nq cq]] w fun e w' => e = .returned (.int .i64 (if checkO o then 0 else 1)) ∧ Below w.heap.size w w' := by
  obtain rfl : nf = o.fl.length := by have := slR_len hF; simpa using this
  obtain rfl : nq = o.qu.length := by have := slR_len hQ; simpa using this
  have hb0 := Below.refl w.heap.size w
  refine fw_en 83 [(0, .agg #[.int .i64 o.last, .slice af o.fl.length cf, .slice aq o.qu.length cq])] Try.func86 rfl Try.ntmps86 rfl ⟨rfl, trivial⟩ ?_
  refine fw_sq ?_
  refine fw_rg rfl ?_
  refine fw_bx rfl (cs := [.int .i64 o.last, .slice af o.fl.length cf, .slice aq o.qu.length cq]) rfl ?_
  intro q1 W2 g5 s3 r4
  have := Nat.le_trans hb0.size g5
  have b6 := hb0.trans (s3.mono hb0.size)
  refine fw_pu rfl ?_
  refine fw_dt ?_
  refine ⟨fun a h => ?_⟩
  refine wp_scope_end rfl rfl fun J' HJ => ?_
  refine wpSpine_seq rfl fun K hK7 => ?_
  refine fw_in h ?_
  refine fw_rg rfl ?_
  refine fw_pu rfl ?_
  refine fw_dn ?_
  refine ⟨fun a h => ?_⟩
  refine ow_then (hK7 _ _ ?_)
  refine wpSpine_seq rfl fun K hK8 => ?_
  refine fw_in h ?_
  refine fw_sq ?_
  refine fw_rg rfl ?_
  refine fw_pu rfl ?_
  refine fw_ld r4 rfl rfl ?_
  iterate 2 refine fw_pu rfl ?_
  rcases Bool.eq_false_or_eq_true ((decide (o.last < 0))) with hb_9 | hb_9
  · skip
    refine fw_kn 11 rfl hb_9 ?_
    iterate 16 refine fw_pu rfl ?_
    refine fw_dt ?_
    refine fw_cT rfl rfl ?_
    refine fw_go ?_
    refine ⟨fun a h => ?_⟩
    refine ow_then_goto (ow_jump (HJ _ _ ?_))
    refine fw_in h ?_
    refine fw_sq ?_
    refine fw_rg rfl ?_
    iterate 2 refine fw_pu rfl ?_
    refine fw_dt ?_
    refine fw_rt ?_
    refine ⟨fun a h => ?_⟩
    refine ow_nogoto_ret ?_
    have hck : checkO o = false := by unfold checkO; simp [hb_9]
    exact ow_ret1 rfl h.df (h.g 2 rfl) ⟨by rw [hck]; rfl, b6⟩
  refine fw_kn 11 rfl hb_9 ?_
  refine fw_pu rfl ?_
  refine fw_ld r4 rfl rfl ?_
  iterate 3 refine fw_pu rfl ?_
  rcases Bool.eq_false_or_eq_true ((decide (65535 < o.last))) with hb_10 | hb_10
  · skip
    refine fw_kn 16 rfl hb_10 ?_
    iterate 11 refine fw_pu rfl ?_
    refine fw_dt ?_
    refine fw_cT rfl rfl ?_
    refine fw_go ?_
    refine ⟨fun a h => ?_⟩
    refine ow_then_goto (ow_jump (HJ _ _ ?_))
    refine fw_in h ?_
    refine fw_sq ?_
    refine fw_rg rfl ?_
    iterate 2 refine fw_pu rfl ?_
    refine fw_dt ?_
    refine fw_rt ?_
    refine ⟨fun a h => ?_⟩
    refine ow_nogoto_ret ?_
    have hck : checkO o = false := by unfold checkO; simp [hb_9, hb_10]
    exact ow_ret1 rfl h.df (h.g 2 rfl) ⟨by rw [hck]; rfl, b6⟩
  refine fw_kn 16 rfl hb_10 ?_
  refine fw_pu rfl ?_
  refine fw_ld r4 rfl rfl ?_
  iterate 4 refine fw_pu rfl ?_
  rcases Bool.eq_false_or_eq_true ((decide (4 < ((o.fl.length : Nat) : Int)))) with hb_11 | hb_11
  · skip
    refine fw_kn 22 rfl hb_11 ?_
    iterate 5 refine fw_pu rfl ?_
    refine fw_dt ?_
    refine fw_cT rfl rfl ?_
    refine fw_go ?_
    refine ⟨fun a h => ?_⟩
    refine ow_then_goto (ow_jump (HJ _ _ ?_))
    refine fw_in h ?_
    refine fw_sq ?_
    refine fw_rg rfl ?_
    iterate 2 refine fw_pu rfl ?_
    refine fw_dt ?_
    refine fw_rt ?_
    refine ⟨fun a h => ?_⟩
    refine ow_nogoto_ret ?_
    have hck : checkO o = false := by unfold checkO; simp [hb_9, hb_10, hb_11]
    exact ow_ret1 rfl h.df (h.g 2 rfl) ⟨by rw [hck]; rfl, b6⟩
  refine fw_kn 22 rfl hb_11 ?_
  refine fw_pu rfl ?_
  refine fw_ld r4 rfl rfl ?_
  iterate 3 refine fw_pu rfl ?_
  refine fw_dt ?_
  rcases Bool.eq_false_or_eq_true ((decide (8 < ((o.qu.length : Nat) : Int)))) with hb_12 | hb_12
  · skip
    refine fw_cT rfl hb_12 ?_
    refine fw_go ?_
    refine ⟨fun a h => ?_⟩
    refine ow_then_goto (ow_jump (HJ _ _ ?_))
    refine fw_in h ?_
    refine fw_sq ?_
    refine fw_rg rfl ?_
    iterate 2 refine fw_pu rfl ?_
    refine fw_dt ?_
    refine fw_rt ?_
    refine ⟨fun a h => ?_⟩
    refine ow_nogoto_ret ?_
    have hck : checkO o = false := by unfold checkO; simp [hb_9, hb_10, hb_11, hb_12]
    exact ow_ret1 rfl h.df (h.g 2 rfl) ⟨by rw [hck]; rfl, b6⟩
  refine fw_cF rfl hb_12 ?_
  refine fw_sk ?_
  refine ⟨fun a h => ?_⟩
  refine ow_then (hK8 _ _ ?_)
  refine wpSpine_seq rfl fun K hK13 => ?_
  refine fw_in h ?_
  refine fw_sq ?_
  refine fw_rg rfl ?_
  refine fw_pu rfl ?_
  refine fw_ld r4 rfl rfl ?_
  iterate 2 refine fw_pu rfl ?_
  refine fw_dt ?_
  refine fw_bk ?_
  refine fw_lp (fun N K W => ∃ (i : Nat), N = o.fl.length - i ∧ i ≤ o.fl.length ∧ (List.range i).all (okAt o.fl) = true ∧ K = [(1, .pointer (some ⟨q1, 0, none⟩)), (3, .int .i64 1), (29, .slice af o.fl.length cf), (30, .int .i64 ((o.fl.length : Nat) : Int)), (31, .int .i64 ((i : Nat) : Int))] ∧ Below w.heap.size w W ∧ RowAt W q1 [.int .i64 o.last, .slice af o.fl.length cf, .slice aq o.qu.length cq]) _ _ ⟨0, rfl, Nat.zero_le _, rfl, rfl, b6, r4⟩ ⟨rfl, rfl, rfl, rfl, (by first | rfl | (simp only [Look, cond, Nat.beq]; first | rfl | (congr 2; first | rfl | omega | (push_cast; omega)) | (simp; try omega))), trivial⟩ ?_
  rintro N _ W14 ⟨i, rfl, hil, hall, rfl, bW14, rW14_0⟩
  intro K16 hK16
  refine fw_sq ?_
  refine fw_rg rfl ?_
  refine fw_pu rfl ?_
  refine fw_dt ?_
  refine fw_sq ?_
  rcases Bool.eq_false_or_eq_true ((decide (((i : Nat) : Int) < ((o.fl.length : Nat) : Int)))) with hb_17 | hb_17
  · skip
    refine fw_cT rfl hb_17 ?_
    refine fw_sk ?_
    refine fw_th ?_
    refine fw_sq ?_
    refine fw_bk ?_
    refine fw_sq ?_
    have hiL : i < o.fl.length := by have h := of_decide_eq_true hb_17; omega
    obtain ⟨x0, hx0⟩ : ∃ p, o.fl[i]? = some p := ⟨_, List.getElem?_eq_getElem hiL⟩
    obtain ⟨bF, oF, rfl, hbF, hcF⟩ := slR_at hF (i := i) (q := rowFl x0) (by rw [List.getElem?_map, hx0]; rfl)
    refine fw_rg rfl ?_
    refine fw_pu rfl ?_
    refine fw_ex 34 (.pointer (some ⟨bF, (oF + i * 6), none⟩)) rfl rfl rfl (fun a h => (run_indexOp (h.ev rfl) (h.ev rfl) (idxFl _ _ _ _ _ hiL _))) ?_
    refine fw_ex 35 (.agg #[.int .i64 x0.id, .string x0.m.t, .string x0.m.p, .int .i64 x0.m.q, .bool x0.m.r, .bool x0.rc]) rfl rfl rfl (fun a h => (run_loadOp (h.ev rfl) (ldFl (fun y u hj => (Below.cell bW14 (p := ⟨bF, oF + i * 6 + y, none⟩) hbF).trans (hcF y u hj))))) ?_
    refine fw_al (t := 103) (u := fun q => .pointer (some ⟨q, 0, none⟩)) 5 [.int .i64 0, .string { data := #[] }, .string { data := #[] }, .int .i64 0, .bool false, .bool false] rfl rfl rfl (fun a h => (run_allocOp (by simp [go_sem, Instr.alloc]))) ?_
    intro q18 W19 g22 s20 r21
    have := Nat.le_trans bW14.size g22
    have := rW14_0.lt g22
    have b23 := bW14.trans (s20.mono bW14.size)
    have r24 := rW14_0.below s20
    refine fw_pu rfl ?_
    refine fw_st r21 rfl rfl ?_
    intro W25 s26 r27
    have b28 := below_chg b23 s26 (by omega) b23.size
    have r29 := r24.chg s26 (by omega)
    refine fw_dt ?_
    refine fw_sq ?_
    have hli : (o.fl.take i).length ≤ 1000000 := by rw [List.length_take]; omega
    have hFi := slR_take hF (i := i) (by omega)
    have hicf : i ≤ cf := by have := slR_cap hF; omega
    refine fw_hr (fun X => Below w.heap.size w X ∧ RowAt X q1 [.int .i64 o.last, .slice (some ⟨bF, oF, none⟩) o.fl.length cf, .slice aq o.qu.length cq] ∧ RowAt X q18 [.int .i64 x0.id, .string x0.m.t, .string x0.m.p, .int .i64 x0.m.q, .bool x0.m.r, .bool x0.rc]) (by kernel_rfl) 34 rfl ?_
    intro W30 s31
    have b32 := b28.trans (s31.mono b28.size)
    have r33 := r29.below s31
    have r34 := r27.below s31
    refine ⟨⟨b32, r33, r34⟩, ?_⟩
    refine fw_tk 0 rfl rfl (by kernel_rfl) (fun _ _ _ _ _ h => h) ?_
    refine fw_tl 1 (fun _ h => h.2.2) rfl rfl rfl (by kernel_rfl) (fun _ _ _ _ _ h => h) ?_
    refine fw_tk 2 rfl rfl (by kernel_rfl) (fun _ _ _ _ _ h => h) ?_
    refine fw_tk 3 rfl rfl (by kernel_rfl) (fun _ _ _ _ _ h => h) ?_
    rcases Bool.eq_false_or_eq_true ((decide (x0.id < 1))) with hb_35 | hb_35
    · skip
      refine fw_kh 39 rfl hb_35 ?_
      refine fw_tk 4 rfl rfl (by kernel_rfl) (fun _ _ _ _ _ h => h) ?_
      refine fw_tk 5 rfl rfl (by kernel_rfl) (fun _ _ _ _ _ h => h) ?_
      refine fw_tk 6 rfl rfl (by kernel_rfl) (fun _ _ _ _ _ h => h) ?_
      refine fw_tk 7 rfl rfl (by kernel_rfl) (fun _ _ _ _ _ h => h) ?_
      refine fw_tk 8 rfl rfl (by kernel_rfl) (fun _ _ _ _ _ h => h) ?_
      refine fw_tk 9 rfl rfl (by kernel_rfl) (fun _ _ _ _ _ h => h) ?_
      refine fw_tk 10 rfl rfl (by kernel_rfl) (fun _ _ _ _ _ h => h) ?_
      refine fw_tk 11 rfl rfl (by kernel_rfl) (fun _ _ _ _ _ h => h) ?_
      refine fw_tk 12 rfl rfl (by kernel_rfl) (fun _ _ _ _ _ h => h) ?_
      refine fw_tk 13 rfl rfl (by kernel_rfl) (fun _ _ _ _ _ h => h) ?_
      refine fw_tk 14 rfl rfl (by kernel_rfl) (fun _ _ _ _ _ h => h) ?_
      refine fw_tk 15 rfl rfl (by kernel_rfl) (fun _ _ _ _ _ h => h) ?_
      refine fw_tk 16 rfl rfl (by kernel_rfl) (fun _ _ _ _ _ h => h) ?_
      refine fw_tk 17 rfl rfl (by kernel_rfl) (fun _ _ _ _ _ h => h) ?_
      refine fw_tk 18 rfl rfl (by kernel_rfl) (fun _ _ _ _ _ h => h) ?_
      refine fw_tk 19 rfl rfl (by kernel_rfl) (fun _ _ _ _ _ h => h) ?_
      refine fw_tk 20 rfl rfl (by kernel_rfl) (fun _ _ _ _ _ h => h) ?_
      refine fw_tk 21 rfl rfl (by kernel_rfl) (fun _ _ _ _ _ h => h) ?_
      refine fw_tk 22 rfl rfl (by kernel_rfl) (fun _ _ _ _ _ h => h) ?_
      refine fw_tk 23 rfl rfl (by kernel_rfl) (fun _ _ _ _ _ h => h) ?_
      refine fw_tk 24 rfl rfl (by kernel_rfl) (fun _ _ _ _ _ h => h) ?_
      refine fw_tk 25 rfl rfl (by kernel_rfl) (fun _ _ _ _ _ h => h) ?_
      refine fw_tk 26 rfl rfl (by kernel_rfl) (fun _ _ _ _ _ h => h) ?_
      refine fw_tk 27 rfl rfl (by kernel_rfl) (fun _ _ _ _ _ h => h) ?_
      refine fw_tk 28 rfl rfl (by kernel_rfl) (fun _ _ _ _ _ h => h) ?_
      refine fw_tk 29 rfl rfl (by kernel_rfl) (fun _ _ _ _ _ h => h) ?_
      refine fw_tk 30 rfl rfl (by kernel_rfl) (fun _ _ _ _ _ h => h) ?_
      refine fw_tk 31 rfl rfl (by kernel_rfl) (fun _ _ _ _ _ h => h) ?_
      refine fw_tk 32 rfl rfl (by kernel_rfl) (fun _ _ _ _ _ h => h) ?_
      refine fw_tk 33 rfl rfl (by kernel_rfl) (fun _ _ _ _ _ h => h) ?_
      refine fw_ht (by kernel_rfl) ?_
      refine fw_cT rfl rfl ?_
      refine fw_go ?_
      refine fw_bg ?_
      refine fw_tg ?_
      refine fw_tg ?_
      refine fw_bg ?_
      refine ⟨fun a h => ?_⟩
      refine ow_then_goto (ow_jump (HJ _ _ ?_))
      refine fw_in h ?_
      refine fw_sq ?_
      refine fw_rg rfl ?_
      iterate 2 refine fw_pu rfl ?_
      refine fw_dt ?_
      refine fw_rt ?_
      refine ⟨fun a h => ?_⟩
      refine ow_nogoto_ret ?_
      have hokf : okF o.fl = false := by unfold okF; exact rng_no hiL (by rw [okAt_some hx0]; unfold okE; simp [hb_35])
      have hck : checkO o = false := by unfold checkO; simp [hb_9, hb_10, hb_11, hb_12, hokf]
      exact ow_ret1 rfl h.df (h.g 2 rfl) ⟨by rw [hck]; rfl, b32⟩
    refine fw_kh 39 rfl hb_35 ?_
    refine fw_tk 4 rfl rfl (by kernel_rfl) (fun _ _ _ _ _ h => h) ?_
    refine fw_tl 5 (fun _ h => h.2.2) rfl rfl rfl (by kernel_rfl) (fun _ _ _ _ _ h => h) ?_
    refine fw_tk 6 rfl rfl (by kernel_rfl) (fun _ _ _ _ _ h => h) ?_
    refine fw_tk 7 rfl rfl (by kernel_rfl) (fun _ _ _ _ _ h => h) ?_
    refine fw_tk 8 rfl rfl (by kernel_rfl) (fun _ _ _ _ _ h => h) ?_
    rcases Bool.eq_false_or_eq_true ((decide (65535 < x0.id))) with hb_36 | hb_36
    · skip
      refine fw_kh 44 rfl hb_36 ?_
      refine fw_tk 9 rfl rfl (by kernel_rfl) (fun _ _ _ _ _ h => h) ?_
      refine fw_tk 10 rfl rfl (by kernel_rfl) (fun _ _ _ _ _ h => h) ?_
      refine fw_tk 11 rfl rfl (by kernel_rfl) (fun _ _ _ _ _ h => h) ?_
      refine fw_tk 12 rfl rfl (by kernel_rfl) (fun _ _ _ _ _ h => h) ?_
      refine fw_tk 13 rfl rfl (by kernel_rfl) (fun _ _ _ _ _ h => h) ?_
      refine fw_tk 14 rfl rfl (by kernel_rfl) (fun _ _ _ _ _ h => h) ?_
      refine fw_tk 15 rfl rfl (by kernel_rfl) (fun _ _ _ _ _ h => h) ?_
      refine fw_tk 16 rfl rfl (by kernel_rfl) (fun _ _ _ _ _ h => h) ?_
      refine fw_tk 17 rfl rfl (by kernel_rfl) (fun _ _ _ _ _ h => h) ?_
      refine fw_tk 18 rfl rfl (by kernel_rfl) (fun _ _ _ _ _ h => h) ?_
      refine fw_tk 19 rfl rfl (by kernel_rfl) (fun _ _ _ _ _ h => h) ?_
      refine fw_tk 20 rfl rfl (by kernel_rfl) (fun _ _ _ _ _ h => h) ?_
      refine fw_tk 21 rfl rfl (by kernel_rfl) (fun _ _ _ _ _ h => h) ?_
      refine fw_tk 22 rfl rfl (by kernel_rfl) (fun _ _ _ _ _ h => h) ?_
      refine fw_tk 23 rfl rfl (by kernel_rfl) (fun _ _ _ _ _ h => h) ?_
      refine fw_tk 24 rfl rfl (by kernel_rfl) (fun _ _ _ _ _ h => h) ?_
      refine fw_tk 25 rfl rfl (by kernel_rfl) (fun _ _ _ _ _ h => h) ?_
      refine fw_tk 26 rfl rfl (by kernel_rfl) (fun _ _ _ _ _ h => h) ?_
      refine fw_tk 27 rfl rfl (by kernel_rfl) (fun _ _ _ _ _ h => h) ?_
      refine fw_tk 28 rfl rfl (by kernel_rfl) (fun _ _ _ _ _ h => h) ?_
      refine fw_tk 29 rfl rfl (by kernel_rfl) (fun _ _ _ _ _ h => h) ?_
      refine fw_tk 30 rfl rfl (by kernel_rfl) (fun _ _ _ _ _ h => h) ?_
      refine fw_tk 31 rfl rfl (by kernel_rfl) (fun _ _ _ _ _ h => h) ?_
      refine fw_tk 32 rfl rfl (by kernel_rfl) (fun _ _ _ _ _ h => h) ?_
      refine fw_tk 33 rfl rfl (by kernel_rfl) (fun _ _ _ _ _ h => h) ?_
      refine fw_ht (by kernel_rfl) ?_
      refine fw_cT rfl rfl ?_
      refine fw_go ?_
      refine fw_bg ?_
      refine fw_tg ?_
      refine fw_tg ?_
      refine fw_bg ?_
      refine ⟨fun a h => ?_⟩
      refine ow_then_goto (ow_jump (HJ _ _ ?_))
      refine fw_in h ?_
      refine fw_sq ?_
      refine fw_rg rfl ?_
      iterate 2 refine fw_pu rfl ?_
      refine fw_dt ?_
      refine fw_rt ?_
      refine ⟨fun a h => ?_⟩
      refine ow_nogoto_ret ?_
      have hokf : okF o.fl = false := by unfold okF; exact rng_no hiL (by rw [okAt_some hx0]; unfold okE; simp [hb_35, hb_36])
      have hck : checkO o = false := by unfold checkO; simp [hb_9, hb_10, hb_11, hb_12, hokf]
      exact ow_ret1 rfl h.df (h.g 2 rfl) ⟨by rw [hck]; rfl, b32⟩
    refine fw_kh 44 rfl hb_36 ?_
    refine fw_tk 9 rfl rfl (by kernel_rfl) (fun _ _ _ _ _ h => h) ?_
    refine fw_tl 10 (fun _ h => h.2.1) rfl rfl rfl (by kernel_rfl) (fun _ _ _ _ _ h => h) ?_
    refine fw_tk 11 rfl rfl (by kernel_rfl) (fun _ _ _ _ _ h => h) ?_
    refine fw_tx 12 48 (.slice (some ⟨bF, oF, none⟩) i cf) rfl rfl rfl rfl (fun a h W hW => by obtain ⟨b32, r33, r34⟩ := hW; exact (run_sliceOp1 (h.ev rfl) (h.ev rfl) (sl_to _ _ _ _ _ hicf _))) (by kernel_rfl) (fun _ _ _ _ _ h => h) ?_
    refine fw_tk 13 rfl rfl (by kernel_rfl) (fun _ _ _ _ _ h => h) ?_
    refine fw_tl 14 (fun _ h => h.2.2) rfl rfl rfl (by kernel_rfl) (fun _ _ _ _ _ h => h) ?_
    refine fw_o1 15 (by kernel_rfl) ?_
    refine fw_oc rfl Try.func95 rfl rfl rfl ((find_any (o.fl.take i) _ i cf x0.id W30 (hFi.below b32) hli)) ?_
    rintro _ V38 ⟨rfl, hb37⟩
    refine ⟨(.int .i64 (findO (o.fl.take i) x0.id)), rfl, ?_⟩
    have b39 := b32.trans (hb37.mono b32.size)
    have r40 := r33.below hb37
    have r41 := r34.below hb37
    refine ⟨⟨b39, r40, r41⟩, ?_⟩
    refine fw_tk 16 rfl rfl (by kernel_rfl) (fun _ _ _ _ _ h => h) ?_
    refine fw_tk 17 rfl rfl (by kernel_rfl) (fun _ _ _ _ _ h => h) ?_
    refine fw_tk 18 rfl rfl (by kernel_rfl) (fun _ _ _ _ _ h => h) ?_
    rcases Bool.eq_false_or_eq_true ((decide (0 ≤ (findO (o.fl.take i) x0.id)))) with hb_42 | hb_42
    · skip
      refine fw_kh 54 rfl hb_42 ?_
      refine fw_tk 19 rfl rfl (by kernel_rfl) (fun _ _ _ _ _ h => h) ?_
      refine fw_tk 20 rfl rfl (by kernel_rfl) (fun _ _ _ _ _ h => h) ?_
      refine fw_tk 21 rfl rfl (by kernel_rfl) (fun _ _ _ _ _ h => h) ?_
      refine fw_tk 22 rfl rfl (by kernel_rfl) (fun _ _ _ _ _ h => h) ?_
      refine fw_tk 23 rfl rfl (by kernel_rfl) (fun _ _ _ _ _ h => h) ?_
      refine fw_tk 24 rfl rfl (by kernel_rfl) (fun _ _ _ _ _ h => h) ?_
      refine fw_tk 25 rfl rfl (by kernel_rfl) (fun _ _ _ _ _ h => h) ?_
      refine fw_tk 26 rfl rfl (by kernel_rfl) (fun _ _ _ _ _ h => h) ?_
      refine fw_tk 27 rfl rfl (by kernel_rfl) (fun _ _ _ _ _ h => h) ?_
      refine fw_tk 28 rfl rfl (by kernel_rfl) (fun _ _ _ _ _ h => h) ?_
      refine fw_tk 29 rfl rfl (by kernel_rfl) (fun _ _ _ _ _ h => h) ?_
      refine fw_tk 30 rfl rfl (by kernel_rfl) (fun _ _ _ _ _ h => h) ?_
      refine fw_tk 31 rfl rfl (by kernel_rfl) (fun _ _ _ _ _ h => h) ?_
      refine fw_tk 32 rfl rfl (by kernel_rfl) (fun _ _ _ _ _ h => h) ?_
      refine fw_tk 33 rfl rfl (by kernel_rfl) (fun _ _ _ _ _ h => h) ?_
      refine fw_ht (by kernel_rfl) ?_
      refine fw_cT rfl rfl ?_
      refine fw_go ?_
      refine fw_bg ?_
      refine fw_tg ?_
      refine fw_tg ?_
      refine fw_bg ?_
      refine ⟨fun a h => ?_⟩
      refine ow_then_goto (ow_jump (HJ _ _ ?_))
      refine fw_in h ?_
      refine fw_sq ?_
      refine fw_rg rfl ?_
      iterate 2 refine fw_pu rfl ?_
      refine fw_dt ?_
      refine fw_rt ?_
      refine ⟨fun a h => ?_⟩
      refine ow_nogoto_ret ?_
      have hokf : okF o.fl = false := by unfold okF; exact rng_no hiL (by rw [okAt_some hx0]; unfold okE; simp [hb_35, hb_36, hb_42])
      have hck : checkO o = false := by unfold checkO; simp [hb_9, hb_10, hb_11, hb_12, hokf]
      exact ow_ret1 rfl h.df (h.g 2 rfl) ⟨by rw [hck]; rfl, b39⟩
    refine fw_kh 54 rfl hb_42 ?_
    refine fw_tk 19 rfl rfl (by kernel_rfl) (fun _ _ _ _ _ h => h) ?_
    refine fw_tl 20 (fun _ h => h.2.2) rfl rfl rfl (by kernel_rfl) (fun _ _ _ _ _ h => h) ?_
    refine fw_o1 21 (by kernel_rfl) ?_
    refine fw_oc rfl Try.func87 rfl rfl rfl ((valid_any ⟨x0.m.t, x0.m.p, x0.m.q, x0.m.r⟩ V38)) ?_
    rintro _ V44 ⟨rfl, hb43⟩
    refine ⟨(.bool (vaM x0.m)), rfl, ?_⟩
    have b45 := b39.trans (hb43.mono b39.size)
    have r46 := r40.below hb43
    have r47 := r41.below hb43
    refine ⟨⟨b45, r46, r47⟩, ?_⟩
    refine fw_tk 22 rfl rfl (by kernel_rfl) (fun _ _ _ _ _ h => h) ?_
    refine fw_tk 23 rfl rfl (by kernel_rfl) (fun _ _ _ _ _ h => h) ?_
    refine fw_tk 24 rfl rfl (by kernel_rfl) (fun _ _ _ _ _ h => h) ?_
    rcases Bool.eq_false_or_eq_true ((vaM x0.m)) with hb_48 | hb_48
    · skip
      refine fw_kh 60 rfl (not_of hb_48) ?_
      refine fw_tk 25 rfl rfl (by kernel_rfl) (fun _ _ _ _ _ h => h) ?_
      refine fw_tl 26 (fun _ h => h.2.2) rfl rfl rfl (by kernel_rfl) (fun _ _ _ _ _ h => h) ?_
      refine fw_tk 27 rfl rfl (by kernel_rfl) (fun _ _ _ _ _ h => h) ?_
      rcases Bool.eq_false_or_eq_true (x0.rc) with hb_49 | hb_49
      · skip
        refine fw_kh 63 rfl hb_49 ?_
        refine fw_tk 28 rfl rfl (by kernel_rfl) (fun _ _ _ _ _ h => h) ?_
        refine fw_tk 29 rfl rfl (by kernel_rfl) (fun _ _ _ _ _ h => h) ?_
        refine fw_tl 30 (fun _ h => h.2.2) rfl rfl rfl (by kernel_rfl) (fun _ _ _ _ _ h => h) ?_
        refine fw_tk 31 rfl rfl (by kernel_rfl) (fun _ _ _ _ _ h => h) ?_
        refine fw_tk 32 rfl rfl (by kernel_rfl) (fun _ _ _ _ _ h => h) ?_
        refine fw_tk 33 rfl rfl (by kernel_rfl) (fun _ _ _ _ _ h => h) ?_
        refine fw_ht (by kernel_rfl) ?_
        rcases Bool.eq_false_or_eq_true ((x0.m.q == 2)) with hb_50 | hb_50
        · skip
          refine fw_cF rfl (not_of hb_50) ?_
          refine fw_sk ?_
          refine fw_bn ?_
          refine fw_th ?_
          refine fw_rg rfl ?_
          refine fw_ex 70 (.int .i64 (((i + 1) : Nat) : Int)) rfl rfl rfl (fun a h => (run_binOp (h.ev rfl) (h.ev rfl) (by simp [go_sem]) (addIw _ _ _ _ (by omega) (by omega) (by omega)))) ?_
          refine fw_pu rfl ?_
          refine fw_dn ?_
          exact fw_th (fw_gf (hK16 _ _ _ (by omega) ⟨(i + 1), rfl, hiL, (rng_take hall (by rw [okAt_some hx0]; unfold okE; simp [hb_35, hb_36, hb_42, hb_48, hb_49, hb_50])), rfl, b45, r46⟩) ⟨rfl, rfl, (by first | rfl | (simp only [Look, cond, Nat.beq]; first | rfl | (congr 2; first | rfl | omega | (push_cast; omega)) | (simp; try omega))), rfl, (by first | rfl | (simp only [Look, cond, Nat.beq]; first | rfl | (congr 2; first | rfl | omega | (push_cast; omega)) | (simp; try omega))), trivial⟩)
        refine fw_cT rfl (not_of hb_50) ?_
        refine fw_go ?_
        refine fw_bg ?_
        refine fw_tg ?_
        refine fw_tg ?_
        refine fw_bg ?_
        refine ⟨fun a h => ?_⟩
        refine ow_then_goto (ow_jump (HJ _ _ ?_))
        refine fw_in h ?_
        refine fw_sq ?_
        refine fw_rg rfl ?_
        iterate 2 refine fw_pu rfl ?_
        refine fw_dt ?_
        refine fw_rt ?_
        refine ⟨fun a h => ?_⟩
        refine ow_nogoto_ret ?_
        have hokf : okF o.fl = false := by unfold okF; exact rng_no hiL (by rw [okAt_some hx0]; unfold okE; simp [hb_35, hb_36, hb_42, hb_48, hb_49, hb_50])
        have hck : checkO o = false := by unfold checkO; simp [hb_9, hb_10, hb_11, hb_12, hokf]
        exact ow_ret1 rfl h.df (h.g 2 rfl) ⟨by rw [hck]; rfl, b45⟩
      refine fw_kh 63 rfl hb_49 ?_
      refine fw_tk 28 rfl rfl (by kernel_rfl) (fun _ _ _ _ _ h => h) ?_
      refine fw_tk 29 rfl rfl (by kernel_rfl) (fun _ _ _ _ _ h => h) ?_
      refine fw_tk 30 rfl rfl (by kernel_rfl) (fun _ _ _ _ _ h => h) ?_
      refine fw_tk 31 rfl rfl (by kernel_rfl) (fun _ _ _ _ _ h => h) ?_
      refine fw_tk 32 rfl rfl (by kernel_rfl) (fun _ _ _ _ _ h => h) ?_
      refine fw_tk 33 rfl rfl (by kernel_rfl) (fun _ _ _ _ _ h => h) ?_
      refine fw_ht (by kernel_rfl) ?_
      refine fw_cF rfl rfl ?_
      refine fw_sk ?_
      refine fw_bn ?_
      refine fw_th ?_
      refine fw_rg rfl ?_
      refine fw_ex 70 (.int .i64 (((i + 1) : Nat) : Int)) rfl rfl rfl (fun a h => (run_binOp (h.ev rfl) (h.ev rfl) (by simp [go_sem]) (addIw _ _ _ _ (by omega) (by omega) (by omega)))) ?_
      refine fw_pu rfl ?_
      refine fw_dn ?_
      exact fw_th (fw_gf (hK16 _ _ _ (by omega) ⟨(i + 1), rfl, hiL, (rng_take hall (by rw [okAt_some hx0]; unfold okE; simp [hb_35, hb_36, hb_42, hb_48, hb_49])), rfl, b45, r46⟩) ⟨rfl, rfl, (by first | rfl | (simp only [Look, cond, Nat.beq]; first | rfl | (congr 2; first | rfl | omega | (push_cast; omega)) | (simp; try omega))), rfl, (by first | rfl | (simp only [Look, cond, Nat.beq]; first | rfl | (congr 2; first | rfl | omega | (push_cast; omega)) | (simp; try omega))), trivial⟩)
    refine fw_kh 60 rfl (not_of hb_48) ?_
    refine fw_tk 25 rfl rfl (by kernel_rfl) (fun _ _ _ _ _ h => h) ?_
    refine fw_tk 26 rfl rfl (by kernel_rfl) (fun _ _ _ _ _ h => h) ?_
    refine fw_tk 27 rfl rfl (by kernel_rfl) (fun _ _ _ _ _ h => h) ?_
    refine fw_tk 28 rfl rfl (by kernel_rfl) (fun _ _ _ _ _ h => h) ?_
    refine fw_tk 29 rfl rfl (by kernel_rfl) (fun _ _ _ _ _ h => h) ?_
    refine fw_tk 30 rfl rfl (by kernel_rfl) (fun _ _ _ _ _ h => h) ?_
    refine fw_tk 31 rfl rfl (by kernel_rfl) (fun _ _ _ _ _ h => h) ?_
    refine fw_tk 32 rfl rfl (by kernel_rfl) (fun _ _ _ _ _ h => h) ?_
    refine fw_tk 33 rfl rfl (by kernel_rfl) (fun _ _ _ _ _ h => h) ?_
    refine fw_ht (by kernel_rfl) ?_
    refine fw_cT rfl rfl ?_
    refine fw_go ?_
    refine fw_bg ?_
    refine fw_tg ?_
    refine fw_tg ?_
    refine fw_bg ?_
    refine ⟨fun a h => ?_⟩
    refine ow_then_goto (ow_jump (HJ _ _ ?_))
    refine fw_in h ?_
    refine fw_sq ?_
    refine fw_rg rfl ?_
    iterate 2 refine fw_pu rfl ?_
    refine fw_dt ?_
    refine fw_rt ?_
    refine ⟨fun a h => ?_⟩
    refine ow_nogoto_ret ?_
    have hokf : okF o.fl = false := by unfold okF; exact rng_no hiL (by rw [okAt_some hx0]; unfold okE; simp [hb_35, hb_36, hb_42, hb_48])
    have hck : checkO o = false := by unfold checkO; simp [hb_9, hb_10, hb_11, hb_12, hokf]
    exact ow_ret1 rfl h.df (h.g 2 rfl) ⟨by rw [hck]; rfl, b45⟩
  refine fw_cF rfl hb_17 ?_
  refine fw_xt ?_
  refine fw_te ?_
  refine fw_te ?_
  refine fw_be ?_
  refine ⟨fun a h => ?_⟩
  refine ow_then (hK13 _ _ ?_)
  refine wpSpine_seq rfl fun K hK51 => ?_
  refine fw_in h ?_
  refine fw_sq ?_
  refine fw_rg rfl ?_
  refine fw_pu rfl ?_
  refine fw_ld rW14_0 rfl rfl ?_
  iterate 2 refine fw_pu rfl ?_
  refine fw_dt ?_
  refine fw_bk ?_
  refine fw_lp (fun N K W => ∃ (j : Nat), N = o.qu.length - j ∧ j ≤ o.qu.length ∧ (o.qu.take j).all vaM = true ∧ K = [(3, .int .i64 1), (72, .slice aq o.qu.length cq), (73, .int .i64 ((o.qu.length : Nat) : Int)), (74, .int .i64 ((j : Nat) : Int))] ∧ Below w.heap.size w W ∧ RowAt W q1 [.int .i64 o.last, .slice af o.fl.length cf, .slice aq o.qu.length cq]) _ _ ⟨0, rfl, Nat.zero_le _, rfl, rfl, bW14, rW14_0⟩ ⟨rfl, rfl, rfl, (by first | rfl | (simp only [Look, cond, Nat.beq]; first | rfl | (congr 2; first | rfl | omega | (push_cast; omega)) | (simp; try omega))), trivial⟩ ?_
  rintro N _ W52 ⟨j, rfl, hjl, hallq, rfl, bW52, rW52_0⟩
  intro K54 hK54
  refine fw_sq ?_
  refine fw_rg rfl ?_
  refine fw_pu rfl ?_
  refine fw_dt ?_
  refine fw_sq ?_
  rcases Bool.eq_false_or_eq_true ((decide (((j : Nat) : Int) < ((o.qu.length : Nat) : Int)))) with hb_55 | hb_55
  · skip
    refine fw_cT rfl hb_55 ?_
    refine fw_sk ?_
    refine fw_th ?_
    refine fw_sq ?_
    refine fw_bk ?_
    refine fw_sq ?_
    have hjL : j < o.qu.length := by have h := of_decide_eq_true hb_55; omega
    obtain ⟨m0, hm0⟩ : ∃ p, o.qu[j]? = some p := ⟨_, List.getElem?_eq_getElem hjL⟩
    obtain ⟨bQ, oQ, rfl, hbQ, hcQ⟩ := slR_at hQ (i := j) (q := rowMsg m0) (by rw [List.getElem?_map, hm0]; rfl)
    refine fw_rg rfl ?_
    refine fw_ex 76 (.pointer (some ⟨bQ, (oQ + j * 4), none⟩)) rfl rfl rfl (fun a h => (run_indexOp (h.ev rfl) (h.ev rfl) (idxMs _ _ _ _ _ hjL _))) ?_
    refine fw_ex 77 (.agg #[.string m0.t, .string m0.p, .int .i64 m0.q, .bool m0.r]) rfl rfl rfl (fun a h => (run_loadOp (h.ev rfl) (ldMs (fun y u hj => (Below.cell bW52 (p := ⟨bQ, oQ + j * 4 + y, none⟩) hbQ).trans (hcQ y u hj))))) ?_
    refine fw_al (t := 88) (u := fun q => .pointer (some ⟨q, 0, none⟩)) 7 [.string { data := #[] }, .string { data := #[] }, .int .i64 0, .bool false] rfl rfl rfl (fun a h => (run_allocOp (by simp [go_sem, Instr.alloc]))) ?_
    intro q56 W57 g60 s58 r59
    have := Nat.le_trans bW52.size g60
    have := rW52_0.lt g60
    have b61 := bW52.trans (s58.mono bW52.size)
    have r62 := rW52_0.below s58
    refine fw_st r59 rfl rfl ?_
    intro W63 s64 r65
    have b66 := below_chg b61 s64 (by omega) b61.size
    have r67 := r62.chg s64 (by omega)
    refine fw_dt ?_
    refine fw_sq ?_
    refine fw_rg rfl ?_
    refine fw_ld r65 rfl rfl ?_
    refine fw_ca Try.func87 rfl rfl rfl ((valid_any ⟨m0.t, m0.p, m0.q, m0.r⟩ W63)) ?_
    rintro _ V69 ⟨rfl, hb68⟩
    refine ⟨(.bool (vaM m0)), rfl, ?_⟩
    have b70 := b66.trans (hb68.mono b66.size)
    have r71 := r67.below hb68
    have r72 := r65.below hb68
    refine fw_pu rfl ?_
    refine fw_dt ?_
    rcases Bool.eq_false_or_eq_true ((vaM m0)) with hb_73 | hb_73
    · skip
      refine fw_cF rfl (not_of hb_73) ?_
      refine fw_sk ?_
      refine fw_bn ?_
      refine fw_th ?_
      refine fw_rg rfl ?_
      refine fw_ex 81 (.int .i64 (((j + 1) : Nat) : Int)) rfl rfl rfl (fun a h => (run_binOp (h.ev rfl) (h.ev rfl) (by simp [go_sem]) (addIw _ _ _ _ (by omega) (by omega) (by omega)))) ?_
      refine fw_pu rfl ?_
      refine fw_dn ?_
      exact fw_th (fw_gf (hK54 _ _ _ (by omega) ⟨(j + 1), rfl, hjL, (all_take hallq hm0 hb_73), rfl, b70, r71⟩) ⟨rfl, (by first | rfl | (simp only [Look, cond, Nat.beq]; first | rfl | (congr 2; first | rfl | omega | (push_cast; omega)) | (simp; try omega))), rfl, (by first | rfl | (simp only [Look, cond, Nat.beq]; first | rfl | (congr 2; first | rfl | omega | (push_cast; omega)) | (simp; try omega))), trivial⟩)
    refine fw_cT rfl (not_of hb_73) ?_
    refine fw_go ?_
    refine fw_bg ?_
    refine fw_tg ?_
    refine fw_tg ?_
    refine fw_bg ?_
    refine ⟨fun a h => ?_⟩
    refine ow_then_goto (ow_jump (HJ _ _ ?_))
    refine fw_in h ?_
    refine fw_sq ?_
    refine fw_rg rfl ?_
    iterate 2 refine fw_pu rfl ?_
    refine fw_dt ?_
    refine fw_rt ?_
    refine ⟨fun a h => ?_⟩
    refine ow_nogoto_ret ?_
    have hokf : okF o.fl = true := by have hi : i = o.fl.length := (by have h := of_decide_eq_false hb_17; omega); unfold okF; rw [← hi]; exact hall
    have hokq : o.qu.all vaM = false := all_no hm0 hb_73
    have hck : checkO o = false := by unfold checkO; simp [hb_9, hb_10, hb_11, hb_12, hokf, hokq]
    exact ow_ret1 rfl h.df (h.g 2 rfl) ⟨by rw [hck]; rfl, b70⟩
  refine fw_cF rfl hb_55 ?_
  refine fw_xt ?_
  refine fw_te ?_
  refine fw_te ?_
  refine fw_be ?_
  refine ⟨fun a h => ?_⟩
  refine ow_then (hK51 _ _ ?_)
  refine wpSpine_seq rfl fun K hK74 => ?_
  refine fw_in h ?_
  refine fw_rg rfl ?_
  refine fw_pu rfl ?_
  refine fw_dn ?_
  refine ⟨fun a h => ?_⟩
  refine ow_then (hK74 _ _ ?_)
  refine wpSpine_label (HJ _ _ ?_)
  refine fw_in h ?_
  refine fw_sq ?_
  refine fw_rg rfl ?_
  iterate 2 refine fw_pu rfl ?_
  refine fw_dt ?_
  refine fw_rt ?_
  refine ⟨fun a h => ?_⟩
  refine ow_nogoto_ret ?_
  have hokf : okF o.fl = true := by have hi : i = o.fl.length := (by have h := of_decide_eq_false hb_17; omega); unfold okF; rw [← hi]; exact hall
  have hokq : o.qu.all vaM = true := by have hj : j = o.qu.length := (by have h := of_decide_eq_false hb_55; omega); rw [hj, List.take_length] at hallq; exact hallq
  have hck : checkO o = true := by unfold checkO; simp [hb_9, hb_10, hb_11, hb_12, hokf, hokq]
  exact ow_ret1 rfl h.df (h.g 2 rfl) ⟨by rw [hck]; rfl, bW52⟩
set_option maxRecDepth 100000 in
set_option maxHeartbeats 4000000 in
theorem refNum_any (x y : Int) (w : World) :
    Calls Try.prog 96 #[.int .i64 x, .int .i64 y] w fun e w' => e = .returned (.bool ((decide (0 ≤ x) && decide (x ≤ y)))) ∧ Below w.heap.size w w' := by
  have hb0 := Below.refl w.heap.size w
  refine fw_en 12 [(0, .int .i64 x), (1, .int .i64 y)] Try.func96 rfl Try.ntmps96 rfl ⟨rfl, rfl, trivial⟩ ?_
  refine fw_sq ?_
  refine fw_rg rfl ?_
  refine fw_pu rfl ?_
  refine fw_dt ?_
  refine fw_sq ?_
  refine fw_rg rfl ?_
  iterate 3 refine fw_pu rfl ?_
  rcases Bool.eq_false_or_eq_true ((decide (0 ≤ x))) with hb_1 | hb_1
  · skip
    refine fw_kn 7 rfl hb_1 ?_
    iterate 5 refine fw_pu rfl ?_
    refine fw_dt ?_
    refine fw_rt ?_
    refine ⟨fun a h => ?_⟩
    exact ow_ret1 rfl h.df (h.g 4 rfl) ⟨by simp [hb_1], hb0⟩
  refine fw_kn 7 rfl hb_1 ?_
  iterate 5 refine fw_pu rfl ?_
  refine fw_dt ?_
  refine fw_rt ?_
  refine ⟨fun a h => ?_⟩
  exact ow_ret1 rfl h.df (h.g 4 rfl) ⟨by simp [hb_1], hb0⟩
set_option maxRecDepth 100000 in
set_option maxHeartbeats 4000000 in
theorem refOutbox_any (o : EO) (af aq : Option Addr) (nf nq cf cq : Nat) (w : World) (hF : SlR w 6 (.slice af nf cf) (o.fl.map rowFl)) (hQ : SlR w 4 (.slice aq nq cq) (o.qu.map rowMsg)) (hlf : o.fl.length ≤ 100000) (hlq : o.qu.length ≤ 100000) :
    Calls Try.prog 60 #[.agg #[.int .i64 o.last, .slice af nf cf, .slice aq nq cq]] w fun e w' => e = .returned (.bool (checkO o)) ∧ Below w.heap.size w w' := by
  obtain rfl : nf = o.fl.length := by have := slR_len hF; simpa using this
  obtain rfl : nq = o.qu.length := by have := slR_len hQ; simpa using this
  have hb0 := Below.refl w.heap.size w
  refine fw_en 87 [(0, .agg #[.int .i64 o.last, .slice af o.fl.length cf, .slice aq o.qu.length cq])] Try.func60 rfl Try.ntmps60 rfl ⟨rfl, trivial⟩ ?_
  refine fw_sq ?_
  refine fw_rg rfl ?_
  refine fw_bx rfl (cs := [.int .i64 o.last, .slice af o.fl.length cf, .slice aq o.qu.length cq]) rfl ?_
  intro q1 W2 g5 s3 r4
  have := Nat.le_trans hb0.size g5
  have b6 := hb0.trans (s3.mono hb0.size)
  refine fw_pu rfl ?_
  refine fw_dt ?_
  refine fw_sq ?_
  refine fw_sq ?_
  refine fw_rg rfl ?_
  refine fw_pu rfl ?_
  refine fw_ld r4 rfl rfl ?_
  refine fw_ca Try.func96 rfl rfl rfl ((refNum_any o.last 65535 W2)) ?_
  rintro _ V8 ⟨rfl, hb7⟩
  refine ⟨(.bool ((decide (0 ≤ o.last)) && (decide (o.last ≤ 65535)))), rfl, ?_⟩
  have b9 := b6.trans (hb7.mono b6.size)
  have r10 := r4.below hb7
  iterate 2 refine fw_pu rfl ?_
  rcases Bool.eq_false_or_eq_true (((decide (0 ≤ o.last)) && (decide (o.last ≤ 65535)))) with hb_11 | hb_11
  · skip
    refine fw_kn 11 rfl (not_of hb_11) ?_
    refine fw_pu rfl ?_
    refine fw_ld r10 rfl rfl ?_
    iterate 4 refine fw_pu rfl ?_
    rcases Bool.eq_false_or_eq_true ((decide (4 < ((o.fl.length : Nat) : Int)))) with hb_12 | hb_12
    · skip
      refine fw_kn 17 rfl hb_12 ?_
      iterate 5 refine fw_pu rfl ?_
      refine fw_dt ?_
      refine fw_cT rfl rfl ?_
      refine fw_sq ?_
      refine fw_rg rfl ?_
      refine fw_pu rfl ?_
      refine fw_dt ?_
      refine fw_rt ?_
      refine fw_tr ?_
      refine ⟨fun a h => ?_⟩
      obtain ⟨hn0, hn1⟩ := (Bool.and_eq_true _ _).mp hb_11
      have hck : checkO o = false := by unfold checkO; simp [cle hn0, cle hn1, hb_12]
      exact ow_ret1 rfl h.df (h.g 2 rfl) ⟨by rw [hck], b9⟩
    refine fw_kn 17 rfl hb_12 ?_
    refine fw_pu rfl ?_
    refine fw_ld r10 rfl rfl ?_
    iterate 3 refine fw_pu rfl ?_
    refine fw_dt ?_
    rcases Bool.eq_false_or_eq_true ((decide (8 < ((o.qu.length : Nat) : Int)))) with hb_13 | hb_13
    · skip
      refine fw_cT rfl hb_13 ?_
      refine fw_sq ?_
      refine fw_rg rfl ?_
      refine fw_pu rfl ?_
      refine fw_dt ?_
      refine fw_rt ?_
      refine fw_tr ?_
      refine ⟨fun a h => ?_⟩
      obtain ⟨hn0, hn1⟩ := (Bool.and_eq_true _ _).mp hb_11
      have hck : checkO o = false := by unfold checkO; simp [cle hn0, cle hn1, hb_12, hb_13]
      exact ow_ret1 rfl h.df (h.g 2 rfl) ⟨by rw [hck], b9⟩
    refine fw_cF rfl hb_13 ?_
    refine fw_sk ?_
    refine fw_th ?_
    refine fw_sq ?_
    refine fw_sq ?_
    refine fw_rg rfl ?_
    refine fw_pu rfl ?_
    refine fw_dt ?_
    refine fw_bk ?_
    refine fw_lp (fun N K W => ∃ (i : Nat), N = o.fl.length - i ∧ i ≤ o.fl.length ∧ (List.range i).all (okAt o.fl) = true ∧ K = [(1, .pointer (some ⟨q1, 0, none⟩)), (3, .int .i64 ((i : Nat) : Int))] ∧ Below w.heap.size w W ∧ RowAt W q1 [.int .i64 o.last, .slice af o.fl.length cf, .slice aq o.qu.length cq]) _ _ ⟨0, rfl, Nat.zero_le _, rfl, rfl, b9, r10⟩ ⟨rfl, (by first | rfl | (simp only [Look, cond, Nat.beq]; first | rfl | (congr 2; first | rfl | omega | (push_cast; omega)) | (simp; try omega))), trivial⟩ ?_
    rintro N _ W14 ⟨i, rfl, hil, hall, rfl, bW14, rW14_0⟩
    intro K16 hK16
    refine fw_sq ?_
    refine fw_sq ?_
    refine fw_rg rfl ?_
    iterate 2 refine fw_pu rfl ?_
    refine fw_ld rW14_0 rfl rfl ?_
    iterate 2 refine fw_pu rfl ?_
    refine fw_dt ?_
    rcases Bool.eq_false_or_eq_true ((decide (((i : Nat) : Int) < ((o.fl.length : Nat) : Int)))) with hb_17 | hb_17
    · skip
      refine fw_cT rfl hb_17 ?_
      refine fw_sk ?_
      refine fw_th ?_
      refine fw_sq ?_
      refine fw_bk ?_
      refine fw_sq ?_
      have hiL : i < o.fl.length := by have h := of_decide_eq_true hb_17; omega
      obtain ⟨x0, hx0⟩ : ∃ p, o.fl[i]? = some p := ⟨_, List.getElem?_eq_getElem hiL⟩
      obtain ⟨bF, oF, rfl, hbF, hcF⟩ := slR_at hF (i := i) (q := rowFl x0) (by rw [List.getElem?_map, hx0]; rfl)
      refine fw_rg rfl ?_
      refine fw_pu rfl ?_
      refine fw_ld rW14_0 rfl rfl ?_
      refine fw_pu rfl ?_
      refine fw_ex 33 (.pointer (some ⟨bF, (oF + i * 6), none⟩)) rfl rfl rfl (fun a h => (run_indexOp (h.ev rfl) (h.ev rfl) (idxFl _ _ _ _ _ hiL _))) ?_
      refine fw_ex 34 (.agg #[.int .i64 x0.id, .string x0.m.t, .string x0.m.p, .int .i64 x0.m.q, .bool x0.m.r, .bool x0.rc]) rfl rfl rfl (fun a h => (run_loadOp (h.ev rfl) (ldFl (fun y u hj => (Below.cell bW14 (p := ⟨bF, oF + i * 6 + y, none⟩) hbF).trans (hcF y u hj))))) ?_
      refine fw_al (t := 103) (u := fun q => .pointer (some ⟨q, 0, none⟩)) 4 [.int .i64 0, .string { data := #[] }, .string { data := #[] }, .int .i64 0, .bool false, .bool false] rfl rfl rfl (fun a h => (run_allocOp (by simp [go_sem, Instr.alloc]))) ?_
      intro q18 W19 g22 s20 r21
      have := Nat.le_trans bW14.size g22
      have := rW14_0.lt g22
      have b23 := bW14.trans (s20.mono bW14.size)
      have r24 := rW14_0.below s20
      refine fw_st r21 rfl rfl ?_
      intro W25 s26 r27
      have b28 := below_chg b23 s26 (by omega) b23.size
      have r29 := r24.chg s26 (by omega)
      refine fw_dt ?_
      refine fw_sq ?_
      refine fw_sq ?_
      refine fw_rg rfl ?_
      refine fw_pu rfl ?_
      refine fw_ld r27 rfl rfl ?_
      iterate 2 refine fw_pu rfl ?_
      rcases Bool.eq_false_or_eq_true ((decide (x0.id < 1))) with hb_30 | hb_30
      · skip
        refine fw_kn 38 rfl hb_30 ?_
        iterate 20 refine fw_pu rfl ?_
        refine fw_dt ?_
        refine fw_cT rfl rfl ?_
        refine fw_sq ?_
        refine fw_rg rfl ?_
        refine fw_pu rfl ?_
        refine fw_dt ?_
        refine fw_rt ?_
        refine fw_tr ?_
        refine fw_br ?_
        iterate 2 refine fw_tr ?_
        refine fw_br ?_
        refine fw_tr ?_
        refine ⟨fun a h => ?_⟩
        have hokf : okF o.fl = false := by unfold okF; exact rng_no hiL (by rw [okAt_some hx0]; unfold okE; simp [hb_30])
        obtain ⟨hn0, hn1⟩ := (Bool.and_eq_true _ _).mp hb_11
        have hck : checkO o = false := by unfold checkO; simp [cle hn0, cle hn1, hb_12, hb_13, hokf]
        exact ow_ret1 rfl h.df (h.g 2 rfl) ⟨by rw [hck], b28⟩
      refine fw_kn 38 rfl hb_30 ?_
      refine fw_pu rfl ?_
      refine fw_ld r27 rfl rfl ?_
      iterate 3 refine fw_pu rfl ?_
      rcases Bool.eq_false_or_eq_true ((decide (65535 < x0.id))) with hb_31 | hb_31
      · skip
        refine fw_kn 43 rfl hb_31 ?_
        iterate 15 refine fw_pu rfl ?_
        refine fw_dt ?_
        refine fw_cT rfl rfl ?_
        refine fw_sq ?_
        refine fw_rg rfl ?_
        refine fw_pu rfl ?_
        refine fw_dt ?_
        refine fw_rt ?_
        refine fw_tr ?_
        refine fw_br ?_
        iterate 2 refine fw_tr ?_
        refine fw_br ?_
        refine fw_tr ?_
        refine ⟨fun a h => ?_⟩
        have hokf : okF o.fl = false := by unfold okF; exact rng_no hiL (by rw [okAt_some hx0]; unfold okE; simp [hb_30, hb_31])
        obtain ⟨hn0, hn1⟩ := (Bool.and_eq_true _ _).mp hb_11
        have hck : checkO o = false := by unfold checkO; simp [cle hn0, cle hn1, hb_12, hb_13, hokf]
        exact ow_ret1 rfl h.df (h.g 2 rfl) ⟨by rw [hck], b28⟩
      refine fw_kn 43 rfl hb_31 ?_
      refine fw_pu rfl ?_
      refine fw_ld r27 rfl rfl ?_
      refine fw_ca Try.func97 rfl rfl rfl ((refMessage_any ⟨x0.m.t, x0.m.p, x0.m.q, x0.m.r⟩ W25)) ?_
      rintro _ V33 ⟨rfl, hb32⟩
      refine ⟨(.bool (vaM x0.m)), rfl, ?_⟩
      have b34 := b28.trans (hb32.mono b28.size)
      have r35 := r29.below hb32
      have r36 := r27.below hb32
      iterate 3 refine fw_pu rfl ?_
      rcases Bool.eq_false_or_eq_true ((vaM x0.m)) with hb_37 | hb_37
      · skip
        refine fw_kn 49 rfl (not_of hb_37) ?_
        refine fw_pu rfl ?_
        refine fw_ld r36 rfl rfl ?_
        refine fw_pu rfl ?_
        rcases Bool.eq_false_or_eq_true (x0.rc) with hb_38 | hb_38
        · skip
          refine fw_kn 52 rfl hb_38 ?_
          iterate 2 refine fw_pu rfl ?_
          refine fw_ld r36 rfl rfl ?_
          iterate 3 refine fw_pu rfl ?_
          refine fw_dt ?_
          rcases Bool.eq_false_or_eq_true ((x0.m.q == 2)) with hb_39 | hb_39
          · skip
            refine fw_cF rfl (not_of hb_39) ?_
            refine fw_sk ?_
            refine fw_th ?_
            refine fw_sq ?_
            refine fw_rg rfl ?_
            refine fw_pu rfl ?_
            refine fw_dt ?_
            refine fw_bk ?_
            refine fw_lp (fun N K W => ∃ (jj : Nat), N = i - jj ∧ jj ≤ i ∧ (o.fl.take jj).all (fun f => !(f.id == x0.id)) = true ∧ K = [(1, .pointer (some ⟨q1, 0, none⟩)), (3, .int .i64 ((i : Nat) : Int)), (4, .pointer (some ⟨q18, 0, none⟩)), (5, .int .i64 ((jj : Nat) : Int))] ∧ Below w.heap.size w W ∧ RowAt W q1 [.int .i64 o.last, .slice (some ⟨bF, oF, none⟩) o.fl.length cf, .slice aq o.qu.length cq] ∧ RowAt W q18 [.int .i64 x0.id, .string x0.m.t, .string x0.m.p, .int .i64 x0.m.q, .bool x0.m.r, .bool x0.rc]) _ _ ⟨0, rfl, Nat.zero_le _, rfl, rfl, b34, r35, r36⟩ ⟨rfl, rfl, rfl, (by first | rfl | (simp only [Look, cond, Nat.beq]; first | rfl | (congr 2; first | rfl | omega | (push_cast; omega)) | (simp; try omega))), trivial⟩ ?_
            rintro N _ W40 ⟨jj, rfl, hjl1, halj, rfl, bW40, rW40_0, rW40_1⟩
            intro K42 hK42
            refine fw_sq ?_
            refine fw_sq ?_
            refine fw_rg rfl ?_
            iterate 3 refine fw_pu rfl ?_
            refine fw_dt ?_
            rcases Bool.eq_false_or_eq_true ((decide (((jj : Nat) : Int) < ((i : Nat) : Int)))) with hb_43 | hb_43
            · skip
              refine fw_cT rfl hb_43 ?_
              refine fw_sk ?_
              refine fw_th ?_
              refine fw_sq ?_
              refine fw_bk ?_
              refine fw_sq ?_
              have hjj : jj < i := by have h := of_decide_eq_true hb_43; omega
              have hjL1 : jj < o.fl.length := by omega
              obtain ⟨x1, hx1⟩ : ∃ p, o.fl[jj]? = some p := ⟨_, List.getElem?_eq_getElem hjL1⟩
              have hcG : ∀ y u, (rowFl x1)[y]? = some u → w.cell? ⟨bF, oF + jj * 6 + y, none⟩ = some u := by obtain ⟨b1, o1, e1, -, h1⟩ := slR_at hF (i := jj) (q := rowFl x1) (by rw [List.getElem?_map, hx1]; rfl); injection e1 with e1; injection e1 with e2 e3; subst e2; subst e3; exact h1
              refine fw_hr (fun X => Below w.heap.size w X ∧ RowAt X q1 [.int .i64 o.last, .slice (some ⟨bF, oF, none⟩) o.fl.length cf, .slice aq o.qu.length cq] ∧ RowAt X q18 [.int .i64 x0.id, .string x0.m.t, .string x0.m.p, .int .i64 x0.m.q, .bool x0.m.r, .bool x0.rc]) (by kernel_rfl) 9 rfl ?_
              intro W44 s45
              have b46 := bW40.trans (s45.mono bW40.size)
              have r47 := rW40_0.below s45
              have r48 := rW40_1.below s45
              refine ⟨⟨b46, r47, r48⟩, ?_⟩
              refine fw_tk 0 rfl rfl (by kernel_rfl) (fun _ _ _ _ _ h => h) ?_
              refine fw_tl 1 (fun _ h => h.2.1) rfl rfl rfl (by kernel_rfl) (fun _ _ _ _ _ h => h) ?_
              refine fw_tk 2 rfl rfl (by kernel_rfl) (fun _ _ _ _ _ h => h) ?_
              refine fw_tx 3 67 (.pointer (some ⟨bF, (oF + jj * 6), none⟩)) rfl rfl rfl rfl (fun a h W hW => by obtain ⟨b46, r47, r48⟩ := hW; exact (run_indexOp (h.ev rfl) (h.ev rfl) (idxFl _ _ _ _ _ hjL1 _))) (by kernel_rfl) (fun _ _ _ _ _ h => h) ?_
              refine fw_tk 4 rfl rfl (by kernel_rfl) (fun _ _ _ _ _ h => h) ?_
              refine fw_tx 5 69 (.int .i64 x1.id) rfl rfl rfl rfl (fun a h W hW => by obtain ⟨b46, r47, r48⟩ := hW; exact (run_loadOp (h.ev rfl) (ldI1 ((Below.cell b46 (p := ⟨bF, oF + jj * 6, none⟩) hbF).trans (hcG 0 _ rfl))))) (by kernel_rfl) (fun _ _ _ _ _ h => h) ?_
              refine fw_tk 6 rfl rfl (by kernel_rfl) (fun _ _ _ _ _ h => h) ?_
              refine fw_tl 7 (fun _ h => h.2.2) rfl rfl rfl (by kernel_rfl) (fun _ _ _ _ _ h => h) ?_
              refine fw_tk 8 rfl rfl (by kernel_rfl) (fun _ _ _ _ _ h => h) ?_
              refine fw_ht (by kernel_rfl) ?_
              rcases Bool.eq_false_or_eq_true ((x1.id == x0.id)) with hb_49 | hb_49
              · skip
                refine fw_cT rfl hb_49 ?_
                refine fw_sq ?_
                refine fw_rg rfl ?_
                refine fw_pu rfl ?_
                refine fw_dt ?_
                refine fw_rt ?_
                refine fw_br ?_
                iterate 2 refine fw_tr ?_
                iterate 2 refine fw_br ?_
                iterate 2 refine fw_tr ?_
                refine fw_br ?_
                refine fw_tr ?_
                refine ⟨fun a h => ?_⟩
                have hokf : okF o.fl = false := by unfold okF; exact rng_no hiL (by rw [okAt_some hx0]; unfold okE; rw [fnd_yes hjj halj hx1 hb_49]; simp)
                obtain ⟨hn0, hn1⟩ := (Bool.and_eq_true _ _).mp hb_11
                have hck : checkO o = false := by unfold checkO; simp [cle hn0, cle hn1, hb_12, hb_13, hokf]
                exact ow_ret1 rfl h.df (h.g 2 rfl) ⟨by rw [hck], b46⟩
              refine fw_cF rfl hb_49 ?_
              refine fw_sk ?_
              refine fw_bn ?_
              refine fw_th ?_
              refine fw_rg rfl ?_
              refine fw_pu rfl ?_
              refine fw_ex 63 (.int .i64 (((jj + 1) : Nat) : Int)) rfl rfl rfl (fun a h => (run_binOp (h.ev rfl) (h.ev rfl) (by simp [go_sem]) (addIw _ _ _ _ (by omega) (by omega) (by omega)))) ?_
              refine fw_pu rfl ?_
              refine fw_dn ?_
              exact fw_th (fw_gf (hK42 _ _ _ (by omega) ⟨(jj + 1), rfl, hjj, (all_take halj hx1 (by simp [hb_49])), rfl, b46, r47, r48⟩) ⟨rfl, rfl, rfl, (by first | rfl | (simp only [Look, cond, Nat.beq]; first | rfl | (congr 2; first | rfl | omega | (push_cast; omega)) | (simp; try omega))), trivial⟩)
            refine fw_cF rfl hb_43 ?_
            refine fw_xt ?_
            refine fw_te ?_
            refine fw_te ?_
            refine fw_be ?_
            refine fw_bn ?_
            refine fw_th ?_
            refine fw_rg rfl ?_
            refine fw_pu rfl ?_
            refine fw_ex 29 (.int .i64 (((i + 1) : Nat) : Int)) rfl rfl rfl (fun a h => (run_binOp (h.ev rfl) (h.ev rfl) (by simp [go_sem]) (addIw _ _ _ _ (by omega) (by omega) (by omega)))) ?_
            refine fw_pu rfl ?_
            refine fw_dn ?_
            have hfn := fnd_none (show (o.fl.take i).all (fun f => !(f.id == x0.id)) = true by have hj : jj = i := (by have h := of_decide_eq_false hb_43; omega); rw [hj] at halj; exact halj)
            exact fw_th (fw_gf (hK16 _ _ _ (by omega) ⟨(i + 1), rfl, hiL, (rng_take hall (by rw [okAt_some hx0]; unfold okE; simp [hfn, hb_30, hb_31, hb_37, hb_38, hb_39])), rfl, bW40, rW40_0⟩) ⟨rfl, (by first | rfl | (simp only [Look, cond, Nat.beq]; first | rfl | (congr 2; first | rfl | omega | (push_cast; omega)) | (simp; try omega))), trivial⟩)
          refine fw_cT rfl (not_of hb_39) ?_
          refine fw_sq ?_
          refine fw_rg rfl ?_
          refine fw_pu rfl ?_
          refine fw_dt ?_
          refine fw_rt ?_
          refine fw_tr ?_
          refine fw_br ?_
          iterate 2 refine fw_tr ?_
          refine fw_br ?_
          refine fw_tr ?_
          refine ⟨fun a h => ?_⟩
          have hokf : okF o.fl = false := by unfold okF; exact rng_no hiL (by rw [okAt_some hx0]; unfold okE; simp [hb_30, hb_31, hb_37, hb_38, hb_39])
          obtain ⟨hn0, hn1⟩ := (Bool.and_eq_true _ _).mp hb_11
          have hck : checkO o = false := by unfold checkO; simp [cle hn0, cle hn1, hb_12, hb_13, hokf]
          exact ow_ret1 rfl h.df (h.g 2 rfl) ⟨by rw [hck], b34⟩
        refine fw_kn 52 rfl hb_38 ?_
        iterate 6 refine fw_pu rfl ?_
        refine fw_dt ?_
        refine fw_cF rfl rfl ?_
        refine fw_sk ?_
        refine fw_th ?_
        refine fw_sq ?_
        refine fw_rg rfl ?_
        refine fw_pu rfl ?_
        refine fw_dt ?_
        refine fw_bk ?_
        refine fw_lp (fun N K W => ∃ (jj : Nat), N = i - jj ∧ jj ≤ i ∧ (o.fl.take jj).all (fun f => !(f.id == x0.id)) = true ∧ K = [(1, .pointer (some ⟨q1, 0, none⟩)), (3, .int .i64 ((i : Nat) : Int)), (4, .pointer (some ⟨q18, 0, none⟩)), (5, .int .i64 ((jj : Nat) : Int))] ∧ Below w.heap.size w W ∧ RowAt W q1 [.int .i64 o.last, .slice (some ⟨bF, oF, none⟩) o.fl.length cf, .slice aq o.qu.length cq] ∧ RowAt W q18 [.int .i64 x0.id, .string x0.m.t, .string x0.m.p, .int .i64 x0.m.q, .bool x0.m.r, .bool x0.rc]) _ _ ⟨0, rfl, Nat.zero_le _, rfl, rfl, b34, r35, r36⟩ ⟨rfl, rfl, rfl, (by first | rfl | (simp only [Look, cond, Nat.beq]; first | rfl | (congr 2; first | rfl | omega | (push_cast; omega)) | (simp; try omega))), trivial⟩ ?_
        rintro N _ W50 ⟨jj, rfl, hjl1, halj, rfl, bW50, rW50_0, rW50_1⟩
        intro K52 hK52
        refine fw_sq ?_
        refine fw_sq ?_
        refine fw_rg rfl ?_
        iterate 3 refine fw_pu rfl ?_
        refine fw_dt ?_
        rcases Bool.eq_false_or_eq_true ((decide (((jj : Nat) : Int) < ((i : Nat) : Int)))) with hb_53 | hb_53
        · skip
          refine fw_cT rfl hb_53 ?_
          refine fw_sk ?_
          refine fw_th ?_
          refine fw_sq ?_
          refine fw_bk ?_
          refine fw_sq ?_
          have hjj : jj < i := by have h := of_decide_eq_true hb_53; omega
          have hjL1 : jj < o.fl.length := by omega
          obtain ⟨x1, hx1⟩ : ∃ p, o.fl[jj]? = some p := ⟨_, List.getElem?_eq_getElem hjL1⟩
          have hcG : ∀ y u, (rowFl x1)[y]? = some u → w.cell? ⟨bF, oF + jj * 6 + y, none⟩ = some u := by obtain ⟨b1, o1, e1, -, h1⟩ := slR_at hF (i := jj) (q := rowFl x1) (by rw [List.getElem?_map, hx1]; rfl); injection e1 with e1; injection e1 with e2 e3; subst e2; subst e3; exact h1
          refine fw_hr (fun X => Below w.heap.size w X ∧ RowAt X q1 [.int .i64 o.last, .slice (some ⟨bF, oF, none⟩) o.fl.length cf, .slice aq o.qu.length cq] ∧ RowAt X q18 [.int .i64 x0.id, .string x0.m.t, .string x0.m.p, .int .i64 x0.m.q, .bool x0.m.r, .bool x0.rc]) (by kernel_rfl) 9 rfl ?_
          intro W54 s55
          have b56 := bW50.trans (s55.mono bW50.size)
          have r57 := rW50_0.below s55
          have r58 := rW50_1.below s55
          refine ⟨⟨b56, r57, r58⟩, ?_⟩
          refine fw_tk 0 rfl rfl (by kernel_rfl) (fun _ _ _ _ _ h => h) ?_
          refine fw_tl 1 (fun _ h => h.2.1) rfl rfl rfl (by kernel_rfl) (fun _ _ _ _ _ h => h) ?_
          refine fw_tk 2 rfl rfl (by kernel_rfl) (fun _ _ _ _ _ h => h) ?_
          refine fw_tx 3 67 (.pointer (some ⟨bF, (oF + jj * 6), none⟩)) rfl rfl rfl rfl (fun a h W hW => by obtain ⟨b56, r57, r58⟩ := hW; exact (run_indexOp (h.ev rfl) (h.ev rfl) (idxFl _ _ _ _ _ hjL1 _))) (by kernel_rfl) (fun _ _ _ _ _ h => h) ?_
          refine fw_tk 4 rfl rfl (by kernel_rfl) (fun _ _ _ _ _ h => h) ?_
          refine fw_tx 5 69 (.int .i64 x1.id) rfl rfl rfl rfl (fun a h W hW => by obtain ⟨b56, r57, r58⟩ := hW; exact (run_loadOp (h.ev rfl) (ldI1 ((Below.cell b56 (p := ⟨bF, oF + jj * 6, none⟩) hbF).trans (hcG 0 _ rfl))))) (by kernel_rfl) (fun _ _ _ _ _ h => h) ?_
          refine fw_tk 6 rfl rfl (by kernel_rfl) (fun _ _ _ _ _ h => h) ?_
          refine fw_tl 7 (fun _ h => h.2.2) rfl rfl rfl (by kernel_rfl) (fun _ _ _ _ _ h => h) ?_
          refine fw_tk 8 rfl rfl (by kernel_rfl) (fun _ _ _ _ _ h => h) ?_
          refine fw_ht (by kernel_rfl) ?_
          rcases Bool.eq_false_or_eq_true ((x1.id == x0.id)) with hb_59 | hb_59
          · skip
            refine fw_cT rfl hb_59 ?_
            refine fw_sq ?_
            refine fw_rg rfl ?_
            refine fw_pu rfl ?_
            refine fw_dt ?_
            refine fw_rt ?_
            refine fw_br ?_
            iterate 2 refine fw_tr ?_
            iterate 2 refine fw_br ?_
            iterate 2 refine fw_tr ?_
            refine fw_br ?_
            refine fw_tr ?_
            refine ⟨fun a h => ?_⟩
            have hokf : okF o.fl = false := by unfold okF; exact rng_no hiL (by rw [okAt_some hx0]; unfold okE; rw [fnd_yes hjj halj hx1 hb_59]; simp)
            obtain ⟨hn0, hn1⟩ := (Bool.and_eq_true _ _).mp hb_11
            have hck : checkO o = false := by unfold checkO; simp [cle hn0, cle hn1, hb_12, hb_13, hokf]
            exact ow_ret1 rfl h.df (h.g 2 rfl) ⟨by rw [hck], b56⟩
          refine fw_cF rfl hb_59 ?_
          refine fw_sk ?_
          refine fw_bn ?_
          refine fw_th ?_
          refine fw_rg rfl ?_
          refine fw_pu rfl ?_
          refine fw_ex 63 (.int .i64 (((jj + 1) : Nat) : Int)) rfl rfl rfl (fun a h => (run_binOp (h.ev rfl) (h.ev rfl) (by simp [go_sem]) (addIw _ _ _ _ (by omega) (by omega) (by omega)))) ?_
          refine fw_pu rfl ?_
          refine fw_dn ?_
          exact fw_th (fw_gf (hK52 _ _ _ (by omega) ⟨(jj + 1), rfl, hjj, (all_take halj hx1 (by simp [hb_59])), rfl, b56, r57, r58⟩) ⟨rfl, rfl, rfl, (by first | rfl | (simp only [Look, cond, Nat.beq]; first | rfl | (congr 2; first | rfl | omega | (push_cast; omega)) | (simp; try omega))), trivial⟩)
        refine fw_cF rfl hb_53 ?_
        refine fw_xt ?_
        refine fw_te ?_
        refine fw_te ?_
        refine fw_be ?_
        refine fw_bn ?_
        refine fw_th ?_
        refine fw_rg rfl ?_
        refine fw_pu rfl ?_
        refine fw_ex 29 (.int .i64 (((i + 1) : Nat) : Int)) rfl rfl rfl (fun a h => (run_binOp (h.ev rfl) (h.ev rfl) (by simp [go_sem]) (addIw _ _ _ _ (by omega) (by omega) (by omega)))) ?_
        refine fw_pu rfl ?_
        refine fw_dn ?_
        have hfn := fnd_none (show (o.fl.take i).all (fun f => !(f.id == x0.id)) = true by have hj : jj = i := (by have h := of_decide_eq_false hb_53; omega); rw [hj] at halj; exact halj)
        exact fw_th (fw_gf (hK16 _ _ _ (by omega) ⟨(i + 1), rfl, hiL, (rng_take hall (by rw [okAt_some hx0]; unfold okE; simp [hfn, hb_30, hb_31, hb_37, hb_38])), rfl, bW50, rW50_0⟩) ⟨rfl, (by first | rfl | (simp only [Look, cond, Nat.beq]; first | rfl | (congr 2; first | rfl | omega | (push_cast; omega)) | (simp; try omega))), trivial⟩)
      refine fw_kn 49 rfl (not_of hb_37) ?_
      iterate 9 refine fw_pu rfl ?_
      refine fw_dt ?_
      refine fw_cT rfl rfl ?_
      refine fw_sq ?_
      refine fw_rg rfl ?_
      refine fw_pu rfl ?_
      refine fw_dt ?_
      refine fw_rt ?_
      refine fw_tr ?_
      refine fw_br ?_
      iterate 2 refine fw_tr ?_
      refine fw_br ?_
      refine fw_tr ?_
      refine ⟨fun a h => ?_⟩
      have hokf : okF o.fl = false := by unfold okF; exact rng_no hiL (by rw [okAt_some hx0]; unfold okE; simp [hb_30, hb_31, hb_37])
      obtain ⟨hn0, hn1⟩ := (Bool.and_eq_true _ _).mp hb_11
      have hck : checkO o = false := by unfold checkO; simp [cle hn0, cle hn1, hb_12, hb_13, hokf]
      exact ow_ret1 rfl h.df (h.g 2 rfl) ⟨by rw [hck], b34⟩
    refine fw_cF rfl hb_17 ?_
    refine fw_xt ?_
    refine fw_te ?_
    refine fw_te ?_
    refine fw_be ?_
    refine fw_th ?_
    refine fw_sq ?_
    refine fw_sq ?_
    refine fw_rg rfl ?_
    refine fw_pu rfl ?_
    refine fw_dt ?_
    refine fw_bk ?_
    refine fw_lp (fun N K W => ∃ (j : Nat), N = o.qu.length - j ∧ j ≤ o.qu.length ∧ (o.qu.take j).all vaM = true ∧ K = [(1, .pointer (some ⟨q1, 0, none⟩)), (6, .int .i64 ((j : Nat) : Int))] ∧ Below w.heap.size w W ∧ RowAt W q1 [.int .i64 o.last, .slice af o.fl.length cf, .slice aq o.qu.length cq]) _ _ ⟨0, rfl, Nat.zero_le _, rfl, rfl, bW14, rW14_0⟩ ⟨rfl, (by first | rfl | (simp only [Look, cond, Nat.beq]; first | rfl | (congr 2; first | rfl | omega | (push_cast; omega)) | (simp; try omega))), trivial⟩ ?_
    rintro N _ W60 ⟨j, rfl, hjl, hallq, rfl, bW60, rW60_0⟩
    intro K62 hK62
    refine fw_sq ?_
    refine fw_sq ?_
    refine fw_rg rfl ?_
    iterate 2 refine fw_pu rfl ?_
    refine fw_ld rW60_0 rfl rfl ?_
    iterate 2 refine fw_pu rfl ?_
    refine fw_dt ?_
    rcases Bool.eq_false_or_eq_true ((decide (((j : Nat) : Int) < ((o.qu.length : Nat) : Int)))) with hb_63 | hb_63
    · skip
      refine fw_cT rfl hb_63 ?_
      refine fw_sk ?_
      refine fw_th ?_
      refine fw_sq ?_
      refine fw_bk ?_
      refine fw_sq ?_
      have hjL : j < o.qu.length := by have h := of_decide_eq_true hb_63; omega
      obtain ⟨m0, hm0⟩ : ∃ p, o.qu[j]? = some p := ⟨_, List.getElem?_eq_getElem hjL⟩
      obtain ⟨bQ, oQ, rfl, hbQ, hcQ⟩ := slR_at hQ (i := j) (q := rowMsg m0) (by rw [List.getElem?_map, hm0]; rfl)
      refine fw_rg rfl ?_
      refine fw_pu rfl ?_
      refine fw_ld rW60_0 rfl rfl ?_
      refine fw_pu rfl ?_
      refine fw_ex 83 (.pointer (some ⟨bQ, (oQ + j * 4), none⟩)) rfl rfl rfl (fun a h => (run_indexOp (h.ev rfl) (h.ev rfl) (idxMs _ _ _ _ _ hjL _))) ?_
      refine fw_ex 84 (.agg #[.string m0.t, .string m0.p, .int .i64 m0.q, .bool m0.r]) rfl rfl rfl (fun a h => (run_loadOp (h.ev rfl) (ldMs (fun y u hj => (Below.cell bW60 (p := ⟨bQ, oQ + j * 4 + y, none⟩) hbQ).trans (hcQ y u hj))))) ?_
      refine fw_ca Try.func97 rfl rfl rfl ((refMessage_any ⟨m0.t, m0.p, m0.q, m0.r⟩ W60)) ?_
      rintro _ V65 ⟨rfl, hb64⟩
      refine ⟨(.bool (vaM m0)), rfl, ?_⟩
      have b66 := bW60.trans (hb64.mono bW60.size)
      have r67 := rW60_0.below hb64
      refine fw_pu rfl ?_
      refine fw_dt ?_
      rcases Bool.eq_false_or_eq_true ((vaM m0)) with hb_68 | hb_68
      · skip
        refine fw_cF rfl (not_of hb_68) ?_
        refine fw_sk ?_
        refine fw_bn ?_
        refine fw_th ?_
        refine fw_rg rfl ?_
        refine fw_pu rfl ?_
        refine fw_ex 79 (.int .i64 (((j + 1) : Nat) : Int)) rfl rfl rfl (fun a h => (run_binOp (h.ev rfl) (h.ev rfl) (by simp [go_sem]) (addIw _ _ _ _ (by omega) (by omega) (by omega)))) ?_
        refine fw_pu rfl ?_
        refine fw_dn ?_
        exact fw_th (fw_gf (hK62 _ _ _ (by omega) ⟨(j + 1), rfl, hjL, (all_take hallq hm0 hb_68), rfl, b66, r67⟩) ⟨rfl, (by first | rfl | (simp only [Look, cond, Nat.beq]; first | rfl | (congr 2; first | rfl | omega | (push_cast; omega)) | (simp; try omega))), trivial⟩)
      refine fw_cT rfl (not_of hb_68) ?_
      refine fw_sq ?_
      refine fw_rg rfl ?_
      refine fw_pu rfl ?_
      refine fw_dt ?_
      refine fw_rt ?_
      refine fw_br ?_
      iterate 2 refine fw_tr ?_
      refine fw_br ?_
      refine fw_tr ?_
      refine ⟨fun a h => ?_⟩
      have hokf : okF o.fl = true := by have hi : i = o.fl.length := (by have h := of_decide_eq_false hb_17; omega); unfold okF; rw [← hi]; exact hall
      have hokq : o.qu.all vaM = false := all_no hm0 hb_68
      obtain ⟨hn0, hn1⟩ := (Bool.and_eq_true _ _).mp hb_11
      have hck : checkO o = false := by unfold checkO; simp [cle hn0, cle hn1, hb_12, hb_13, hokf, hokq]
      exact ow_ret1 rfl h.df (h.g 2 rfl) ⟨by rw [hck], b66⟩
    refine fw_cF rfl hb_63 ?_
    refine fw_xt ?_
    refine fw_te ?_
    refine fw_te ?_
    refine fw_be ?_
    refine fw_th ?_
    refine fw_sq ?_
    refine fw_rg rfl ?_
    refine fw_pu rfl ?_
    refine fw_dt ?_
    refine fw_rt ?_
    refine ⟨fun a h => ?_⟩
    have hokf : okF o.fl = true := by have hi : i = o.fl.length := (by have h := of_decide_eq_false hb_17; omega); unfold okF; rw [← hi]; exact hall
    have hokq : o.qu.all vaM = true := by have hj : j = o.qu.length := (by have h := of_decide_eq_false hb_63; omega); rw [hj, List.take_length] at hallq; exact hallq
    obtain ⟨hn0, hn1⟩ := (Bool.and_eq_true _ _).mp hb_11
    have hck : checkO o = true := by unfold checkO; simp [cle hn0, cle hn1, hb_12, hb_13, hokf, hokq]
    exact ow_ret1 rfl h.df (h.g 2 rfl) ⟨by rw [hck], bW60⟩
  refine fw_kn 11 rfl (not_of hb_11) ?_
  iterate 11 refine fw_pu rfl ?_
  refine fw_dt ?_
  refine fw_cT rfl rfl ?_
  refine fw_sq ?_
  refine fw_rg rfl ?_
  refine fw_pu rfl ?_
  refine fw_dt ?_
  refine fw_rt ?_
  refine fw_tr ?_
  refine ⟨fun a h => ?_⟩
  have hck : checkO o = false := by unfold checkO; rcases (Bool.and_eq_false_iff.1 hb_11) with h | h <;> simp [clf h]
  exact ow_ret1 rfl h.df (h.g 2 rfl) ⟨by rw [hck], b9⟩
end Go.Proofs.Ytcglmkcefenjcaa
