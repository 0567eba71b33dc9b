/-
  An outbox: what may be, who is found, what is sent, the next identifier.
-/
import Derived.Test.YtcglmkcefenjcaaObA
namespace Go.Proofs.Ytcglmkcefenjcaa
open Go.RowKit
theorem run_callV {P : Program} {ρ : Operand → Value} {d : Option Tmp} {x y : Operand} {ts : Array TypeId} {ty : TypeId} {pos : String} {af : Array Edge} {g : Option (Nat × Bool)} {f : FuncId} {fn : Func} {caps : Array Value} {v : Value} {W : World} (hf : P.funcs[f]? = some fn) (hn : (fn.name == "runtime.NumGoroutine") = false) (hb : fn.body.isNone = false) (hx : ρ x = .func (.func f) #[] caps) (hy : ρ y = v) :
    (execOp ρ ⟨d, .call { callee := .value x, args := #[y], argTypes := ts }, ty, pos, af, g⟩).run P W = .ok (.enter f (#[v] ++ caps)) W := by
  have h1 : fn.name ≠ "runtime.NumGoroutine" := by simpa using hn
  obtain ⟨c, hc⟩ : ∃ c, fn.body = some c := by cases h : fn.body with | none => rw [h] at hb; cases hb | some c => exact ⟨c, rfl⟩
  simp [execOp, resolve, Deferred.ofValue, hx, hy, invoke, callFunc, hf, h1, hc, mark, go_sem]
section
variable {P : Program} {ops : Array Oper} {Q : Exit → Act → World → Prop} {n d : Nat} {L : Kn} {o : Oper} {l : List Oper} {W : World}
theorem fw_cl {f : FuncId} {xs : Array Value} {R : Ending → World → Prop} (d : Nat) (hw : wantL ops L o = some true) (hd : o.dst = some d) (hb : Nat.blt d n = true) (hr : ∀ a, Has n a L → (execOp a.eval o).run P W = .ok (.enter f xs) W) (hc : Calls P f xs W R) (k : ∀ e w', R e w' → ∃ v, e = .returned v ∧ Fr n ((d, v) :: L) (WL P ops Q l) w') : Fr n L (WL P ops Q (o :: l)) W :=
  ⟨fun a h => owl_call (wantL_sound h hw) d (fun v w' => Fr n ((d, v) :: L) (WL P ops Q l) w') hd f _ (hr a h) (hc.mono fun e w' he => k e w' he) (fun _ _ hv => hv.out _ (h.put hb))⟩
end
theorem run_mkFn {P : Program} {ρ : Operand → Value} {d : Option Tmp} {x : Operand} {ty : TypeId} {pos : String} {af : Array Edge} {g : Option (Nat × Bool)} {f : FuncId} {v : Value} {W : World} (hx : ρ x = v) :
    (execOp ρ ⟨d, .makeFunc (.func f) #[] #[x], ty, pos, af, g⟩).run P W = .ok (.value (.func (.func f) #[] #[v])) W := by
  simp [execOp, hx, Instr.makeFunc, go_sem]
/-! the model -/
structure EO where
  last : Int
  fl : List EFl
  qu : List EMsg
def vaM (m : EMsg) : Bool := decide (1 ≤ (m.t.size : Int)) && (decide ((m.t.size : Int) ≤ 64) && (decide ((m.p.size : Int) ≤ 128) && (m.q == 1 || m.q == 2)))
def vaM2 (m : EMsg) : Bool := decide (1 ≤ (m.t.size : Int)) && (decide ((m.t.size : Int) ≤ 64) && (decide ((m.p.size : Int) ≤ 128) && (decide (1 ≤ m.q) && decide (m.q ≤ 2))))
theorem vaM_alt (m : EMsg) : vaM m = vaM2 m := by
  unfold vaM vaM2
  congr 3
  rw [Bool.eq_iff_iff]
  simp only [Bool.or_eq_true, Bool.and_eq_true, beq_iff_eq, decide_eq_true_eq]
  exact ⟨fun h => by omega, fun h => by omega⟩
/-- Where an identifier stands; -1: nowhere. -/
def findO : List EFl → Int → Int
  | [], _ => -1
  | f :: r, id => if (f.id == id) = true then 0 else if findO r id < 0 then -1 else findO r id + 1
theorem fnd_hit {id : Int} : ∀ {L : List EFl} {i : Nat} {x : EFl}, (L.take i).all (fun f => !(f.id == id)) = true → L[i]? = some x → (x.id == id) = true → findO L id = (i : Int)
  | [], i, x, _, h, _ => by simp at h
  | f :: r, 0, x, _, h, hx => by simp at h; subst h; unfold findO; rw [if_pos hx]; rfl
  | f :: r, i + 1, x, ha, h, hx => by
    rw [List.take_succ_cons, List.all_cons, Bool.and_eq_true] at ha
    have h1 := fnd_hit ha.2 (by simpa using h) hx
    have h2 : (f.id == id) = false := by simpa using ha.1
    unfold findO
    rw [if_neg (by rw [h2]; decide), h1, if_neg (by omega)]; rfl
theorem fnd_no {id : Int} : ∀ {L : List EFl}, L.all (fun f => !(f.id == id)) = true → findO L id = -1
  | [], _ => rfl
  | f :: r, ha => by
    rw [List.all_cons, Bool.and_eq_true] at ha
    have h2 : (f.id == id) = false := by simpa using ha.1
    unfold findO
    rw [if_neg (by rw [h2]; decide), fnd_no ha.2, if_pos (by decide)]
def pubP (f : EFl) : EPk := ⟨3, false, f.id, f.m⟩
def relP (id : Int) : EPk := ⟨6, false, id, ⟨{ data := #[] }, { data := #[] }, 0, false⟩⟩
/-- The next identifier that nobody has; k: how often it is tried. -/
def nxO : Nat → Int → List EFl → Option Int
  | 0, _, _ => none
  | k + 1, x, l => if findO l (x.tmod 65535 + 1) < 0 then some (x.tmod 65535 + 1) else nxO k (x.tmod 65535 + 1) l
theorem nx_pos {k : Nat} {x z : Int} {L : List EFl} (h : nxO k x L = some z) : ∃ j, k = j + 1 := by cases k with | zero => cases h | succ j => exact ⟨j, rfl⟩
theorem nx_on {k : Nat} {x z : Int} {L : List EFl} (h : nxO (k + 1) x L = some z) (hd : decide (findO L (x.tmod 65535 + 1) < 0) = false) : nxO k (x.tmod 65535 + 1) L = some z := by
  unfold nxO at h; rw [if_neg (of_decide_eq_false hd)] at h; exact h
theorem nx_end {k : Nat} {x z : Int} {L : List EFl} (h : nxO (k + 1) x L = some z) (hd : decide (findO L (x.tmod 65535 + 1) < 0) = true) : x.tmod 65535 + 1 = z := by
  unfold nxO at h; rw [if_pos (of_decide_eq_true hd)] at h; injection h
theorem tmR (p : Int) : -65535 < p.tmod 65535 ∧ p.tmod 65535 < 65535 := ⟨by have := Int.lt_tmod_of_pos p (b := 65535) (by decide); omega, Int.tmod_lt_of_pos p (by decide)⟩
theorem remR (p : Int) (w : World) : (binOp .rem 3 (.int .i64 p) (.int .i64 65535)).run Try.prog w = .ok (.int .i64 (p.tmod 65535)) w := by simp [go_sem]
set_option maxRecDepth 100000 in
set_option maxHeartbeats 4000000 in
theorem valid_any (m : EMsg) (w : World) :
    Calls Try.prog 87 #[.agg #[.string m.t, .string m.p, .int .i64 m.q, .bool m.r]] w fun e w' => e = .returned (.bool (vaM m)) ∧ Below w.heap.size w w' := by
  have hb0 := Below.refl w.heap.size w
  refine fw_en 29 [(0, .agg #[.string m.t, .string m.p, .int .i64 m.q, .bool m.r])] Try.func87 rfl Try.ntmps87 rfl ⟨rfl, trivial⟩ ?_
  refine fw_sq ?_
  refine fw_rg rfl ?_
  refine fw_bx rfl (cs := [.string m.t, .string m.p, .int .i64 m.q, .bool m.r]) rfl ?_
  intro q1 W2 g5 s3 r4
  have := Nat.le_trans hb0.size g5
  have b6 := hb0.trans (s3.mono hb0.size)
  refine fw_pu rfl ?_
  refine fw_dt ?_
  refine fw_sq ?_
  refine fw_rg rfl ?_
  refine fw_pu rfl ?_
  refine fw_ld r4 rfl rfl ?_
  iterate 3 refine fw_pu rfl ?_
  rcases Bool.eq_false_or_eq_true ((decide (1 ≤ (m.t.size : Int)))) with hb_7 | hb_7
  · skip
    refine fw_kn 7 rfl hb_7 ?_
    refine fw_pu rfl ?_
    refine fw_ld r4 rfl rfl ?_
    iterate 4 refine fw_pu rfl ?_
    rcases Bool.eq_false_or_eq_true ((decide ((m.t.size : Int) ≤ 64))) with hb_8 | hb_8
    · skip
      refine fw_kn 13 rfl hb_8 ?_
      refine fw_pu rfl ?_
      refine fw_ld r4 rfl rfl ?_
      iterate 4 refine fw_pu rfl ?_
      rcases Bool.eq_false_or_eq_true ((decide ((m.p.size : Int) ≤ 128))) with hb_9 | hb_9
      · skip
        refine fw_kn 19 rfl hb_9 ?_
        refine fw_pu rfl ?_
        refine fw_ld r4 rfl rfl ?_
        iterate 2 refine fw_pu rfl ?_
        rcases Bool.eq_false_or_eq_true ((m.q == 1)) with hb_10 | hb_10
        · skip
          refine fw_kn 23 rfl hb_10 ?_
          iterate 6 refine fw_pu rfl ?_
          refine fw_dt ?_
          refine fw_rt ?_
          refine ⟨fun a h => ?_⟩
          exact ow_ret1 rfl h.df (h.g 2 rfl) ⟨by (try unfold vaM); simp [hb_7, hb_8, hb_9, hb_10], b6⟩
        refine fw_kn 23 rfl hb_10 ?_
        refine fw_pu rfl ?_
        refine fw_ld r4 rfl rfl ?_
        iterate 4 refine fw_pu rfl ?_
        refine fw_dt ?_
        refine fw_rt ?_
        refine ⟨fun a h => ?_⟩
        exact ow_ret1 rfl h.df (h.g 2 rfl) ⟨by (try unfold vaM); simp [hb_7, hb_8, hb_9, hb_10], b6⟩
      refine fw_kn 19 rfl hb_9 ?_
      iterate 10 refine fw_pu rfl ?_
      refine fw_dt ?_
      refine fw_rt ?_
      refine ⟨fun a h => ?_⟩
      exact ow_ret1 rfl h.df (h.g 2 rfl) ⟨by (try unfold vaM); simp [hb_7, hb_8, hb_9], b6⟩
    refine fw_kn 13 rfl hb_8 ?_
    iterate 16 refine fw_pu rfl ?_
    refine fw_dt ?_
    refine fw_rt ?_
    refine ⟨fun a h => ?_⟩
    exact ow_ret1 rfl h.df (h.g 2 rfl) ⟨by (try unfold vaM); simp [hb_7, hb_8], b6⟩
  refine fw_kn 7 rfl hb_7 ?_
  iterate 22 refine fw_pu rfl ?_
  refine fw_dt ?_
  refine fw_rt ?_
  refine ⟨fun a h => ?_⟩
  exact ow_ret1 rfl h.df (h.g 2 rfl) ⟨by (try unfold vaM); simp [hb_7], b6⟩
set_option maxRecDepth 100000 in
set_option maxHeartbeats 4000000 in
theorem refMessage_any (m : EMsg) (w : World) :
    Calls Try.prog 97 #[.agg #[.string m.t, .string m.p, .int .i64 m.q, .bool m.r]] w fun e w' => e = .returned (.bool (vaM m)) ∧ Below w.heap.size w w' := by
  have hb0 := Below.refl w.heap.size w
  refine fw_en 29 [(0, .agg #[.string m.t, .string m.p, .int .i64 m.q, .bool m.r])] Try.func97 rfl Try.ntmps97 rfl ⟨rfl, trivial⟩ ?_
  refine fw_sq ?_
  refine fw_rg rfl ?_
  refine fw_bx rfl (cs := [.string m.t, .string m.p, .int .i64 m.q, .bool m.r]) rfl ?_
  intro q1 W2 g5 s3 r4
  have := Nat.le_trans hb0.size g5
  have b6 := hb0.trans (s3.mono hb0.size)
  refine fw_pu rfl ?_
  refine fw_dt ?_
  refine fw_sq ?_
  refine fw_rg rfl ?_
  refine fw_pu rfl ?_
  refine fw_ld r4 rfl rfl ?_
  iterate 3 refine fw_pu rfl ?_
  rcases Bool.eq_false_or_eq_true ((decide (1 ≤ (m.t.size : Int)))) with hb_7 | hb_7
  · skip
    refine fw_kn 7 rfl hb_7 ?_
    refine fw_pu rfl ?_
    refine fw_ld r4 rfl rfl ?_
    iterate 4 refine fw_pu rfl ?_
    rcases Bool.eq_false_or_eq_true ((decide ((m.t.size : Int) ≤ 64))) with hb_8 | hb_8
    · skip
      refine fw_kn 13 rfl hb_8 ?_
      refine fw_pu rfl ?_
      refine fw_ld r4 rfl rfl ?_
      iterate 4 refine fw_pu rfl ?_
      rcases Bool.eq_false_or_eq_true ((decide ((m.p.size : Int) ≤ 128))) with hb_9 | hb_9
      · skip
        refine fw_kn 19 rfl hb_9 ?_
        refine fw_pu rfl ?_
        refine fw_ld r4 rfl rfl ?_
        iterate 3 refine fw_pu rfl ?_
        rcases Bool.eq_false_or_eq_true ((decide (1 ≤ m.q))) with hb_10 | hb_10
        · skip
          refine fw_kn 24 rfl hb_10 ?_
          refine fw_pu rfl ?_
          refine fw_ld r4 rfl rfl ?_
          iterate 3 refine fw_pu rfl ?_
          refine fw_dt ?_
          refine fw_rt ?_
          refine ⟨fun a h => ?_⟩
          exact ow_ret1 rfl h.df (h.g 2 rfl) ⟨by rw [vaM_alt]; (try unfold vaM2); simp [hb_7, hb_8, hb_9, hb_10], b6⟩
        refine fw_kn 24 rfl hb_10 ?_
        iterate 5 refine fw_pu rfl ?_
        refine fw_dt ?_
        refine fw_rt ?_
        refine ⟨fun a h => ?_⟩
        exact ow_ret1 rfl h.df (h.g 2 rfl) ⟨by rw [vaM_alt]; (try unfold vaM2); simp [hb_7, hb_8, hb_9, hb_10], b6⟩
      refine fw_kn 19 rfl hb_9 ?_
      iterate 10 refine fw_pu rfl ?_
      refine fw_dt ?_
      refine fw_rt ?_
      refine ⟨fun a h => ?_⟩
      exact ow_ret1 rfl h.df (h.g 2 rfl) ⟨by rw [vaM_alt]; (try unfold vaM2); simp [hb_7, hb_8, hb_9], b6⟩
    refine fw_kn 13 rfl hb_8 ?_
    iterate 16 refine fw_pu rfl ?_
    refine fw_dt ?_
    refine fw_rt ?_
    refine ⟨fun a h => ?_⟩
    exact ow_ret1 rfl h.df (h.g 2 rfl) ⟨by rw [vaM_alt]; (try unfold vaM2); simp [hb_7, hb_8], b6⟩
  refine fw_kn 7 rfl hb_7 ?_
  iterate 22 refine fw_pu rfl ?_
  refine fw_dt ?_
  refine fw_rt ?_
  refine ⟨fun a h => ?_⟩
  exact ow_ret1 rfl h.df (h.g 2 rfl) ⟨by rw [vaM_alt]; (try unfold vaM2); simp [hb_7], b6⟩
set_option maxRecDepth 100000 in
set_option maxHeartbeats 4000000 in
theorem findq_any (x : EFl) (q : Nat) (id : Int) (w : World) (hq : RowAt w q [.int .i64 id]) :
    Calls Try.prog 118 #[.agg #[.int .i64 x.id, .string x.m.t, .string x.m.p, .int .i64 x.m.q, .bool x.m.r, .bool x.rc], .pointer (some ⟨q, 0, none⟩)] w fun e w' => e = .returned (.bool ((x.id == id))) ∧ Below w.heap.size w w' := by
  have hb0 := Below.refl w.heap.size w
  refine fw_en 8 [(0, .agg #[.int .i64 x.id, .string x.m.t, .string x.m.p, .int .i64 x.m.q, .bool x.m.r, .bool x.rc]), (1, .pointer (some ⟨q, 0, none⟩))] Try.func118 rfl Try.ntmps118 rfl ⟨rfl, rfl, trivial⟩ ?_
  refine fw_sq ?_
  refine fw_rg rfl ?_
  refine fw_bx rfl (cs := [.int .i64 x.id, .string x.m.t, .string x.m.p, .int .i64 x.m.q, .bool x.m.r, .bool x.rc]) rfl ?_
  intro q1 W2 g5 s3 r4
  have := Nat.le_trans hb0.size g5
  have := hq.lt g5
  have b6 := hb0.trans (s3.mono hb0.size)
  have r7 := hq.below s3
  refine fw_pu rfl ?_
  refine fw_dt ?_
  refine fw_sq ?_
  refine fw_rg rfl ?_
  refine fw_pu rfl ?_
  refine fw_ld r4 rfl rfl ?_
  refine fw_ld r7 rfl rfl ?_
  iterate 2 refine fw_pu rfl ?_
  refine fw_dt ?_
  refine fw_rt ?_
  refine ⟨fun a h => ?_⟩
  exact ow_ret1 rfl h.df (h.g 3 rfl) ⟨by simp [], b6⟩
set_option maxRecDepth 100000 in
set_option maxHeartbeats 4000000 in
theorem idxf_any (L : List EFl) (a : Option Addr) (n c q : Nat) (id : Int) (w : World) (hS : SlR w 6 (.slice a n c) (L.map rowFl)) (hl : L.length ≤ 1000000) (hq : RowAt w q [.int .i64 id]) :
    Calls Try.prog 117 #[.slice a n c, (.func (.func 118) #[] #[.pointer (some ⟨q, 0, none⟩)])] w fun e w' => e = .returned (.int .i64 (findO L id)) ∧ Below w.heap.size w w' := by
  obtain rfl : n = L.length := by have := slR_len hS; simpa using this
  have hb0 := Below.refl w.heap.size w
  refine fw_en 19 [(0, .slice a L.length c), (1, (.func (.func 118) #[] #[.pointer (some ⟨q, 0, none⟩)]))] Try.func117 rfl Try.ntmps117 rfl ⟨rfl, rfl, trivial⟩ ?_
  refine fw_sq ?_
  refine fw_rg rfl ?_
  refine fw_pu rfl ?_
  refine fw_dt ?_
  refine fw_sq ?_
  refine fw_sq ?_
  refine fw_rg rfl ?_
  iterate 3 refine fw_pu rfl ?_
  refine fw_dt ?_
  refine fw_bk ?_
  refine fw_lp (fun N K W => ∃ (i : Nat), N = L.length - i ∧ i ≤ L.length ∧ (L.take i).all (fun f => !(f.id == id)) = true ∧ K = [(0, .slice a L.length c), (1, (.func (.func 118) #[] #[.pointer (some ⟨q, 0, none⟩)])), (7, .int .i64 ((L.length : Nat) : Int)), (8, .int .i64 ((i : Nat) : Int))] ∧ Below w.heap.size w W) _ _ ⟨0, rfl, Nat.zero_le _, rfl, rfl, hb0⟩ ⟨rfl, rfl, rfl, (by first | rfl | (simp only [Look, cond, Nat.beq]; first | rfl | (congr 2; first | rfl | omega | (push_cast; omega)) | (simp; try omega))), trivial⟩ ?_
  rintro N _ W1 ⟨i, rfl, hil, hall, rfl, bW1⟩
  intro K3 hK3
  refine fw_sq ?_
  refine fw_rg rfl ?_
  refine fw_pu rfl ?_
  refine fw_dt ?_
  refine fw_sq ?_
  rcases Bool.eq_false_or_eq_true ((decide (((i : Nat) : Int) < ((L.length : Nat) : Int)))) with hb_4 | hb_4
  · skip
    refine fw_cT rfl hb_4 ?_
    refine fw_sk ?_
    refine fw_th ?_
    refine fw_sq ?_
    refine fw_bk ?_
    refine fw_sq ?_
    have hiL : i < L.length := by have h := of_decide_eq_true hb_4; omega
    obtain ⟨x0, hx0⟩ : ∃ p, L[i]? = some p := ⟨_, List.getElem?_eq_getElem hiL⟩
    obtain ⟨bP, oP, rfl, hbP, hcP⟩ := slR_at hS (i := i) (q := rowFl x0) (by rw [List.getElem?_map, hx0]; rfl)
    refine fw_rg rfl ?_
    iterate 2 refine fw_pu rfl ?_
    refine fw_dt ?_
    refine fw_sq ?_
    refine fw_rg rfl ?_
    iterate 3 refine fw_pu rfl ?_
    refine fw_ex 14 (.pointer (some ⟨bP, (oP + i * 6), none⟩)) rfl rfl rfl (fun a h => (run_indexOp (h.ev rfl) (h.ev rfl) (idxFl _ _ _ _ _ hiL _))) ?_
    refine fw_ex 15 (.agg #[.int .i64 x0.id, .string x0.m.t, .string x0.m.p, .int .i64 x0.m.q, .bool x0.m.r, .bool x0.rc]) rfl rfl rfl (fun a h => (run_loadOp (h.ev rfl) (ldFl (fun j u hj => (Below.cell bW1 (p := ⟨bP, oP + i * 6 + j, none⟩) hbP).trans (hcP j u hj))))) ?_
    refine fw_cl 16 rfl rfl rfl (fun a h => run_callV Try.func118 rfl rfl (h.ev rfl) (h.ev rfl)) (findq_any x0 q id W1 (hq.below bW1)) ?_
    rintro _ V5 ⟨rfl, hb6⟩
    refine ⟨_, rfl, ?_⟩
    have b7 := bW1.trans (hb6.mono bW1.size)
    refine fw_dt ?_
    rcases Bool.eq_false_or_eq_true ((x0.id == id)) with hb_8 | hb_8
    · skip
      refine fw_cT rfl hb_8 ?_
      refine fw_sq ?_
      refine fw_rg rfl ?_
      iterate 2 refine fw_pu rfl ?_
      refine fw_dt ?_
      refine fw_rt ?_
      refine fw_br ?_
      iterate 2 refine fw_tr ?_
      refine fw_br ?_
      refine fw_tr ?_
      refine ⟨fun a h => ?_⟩
      exact ow_ret1 rfl h.df (h.g 4 rfl) ⟨by rw [fnd_hit hall hx0 hb_8], b7⟩
    refine fw_cF rfl hb_8 ?_
    refine fw_sk ?_
    refine fw_bn ?_
    refine fw_th ?_
    refine fw_rg rfl ?_
    refine fw_ex 18 (.int .i64 (((i + 1) : Nat) : Int)) rfl rfl rfl (fun a h => (run_binOp (h.ev rfl) (h.ev rfl) (by simp [go_sem]) (addIw _ _ _ _ (by omega) (by omega) (by omega)))) ?_
    refine fw_pu rfl ?_
    refine fw_dn ?_
    exact fw_th (fw_gf (hK3 _ _ _ (by omega) ⟨(i + 1), rfl, hiL, (all_take hall hx0 (by simp [hb_8])), rfl, b7⟩) ⟨(by first | rfl | (simp only [Look, cond, Nat.beq]; first | rfl | (congr 2; first | rfl | omega | (push_cast; omega)) | (simp; try omega))), rfl, rfl, (by first | rfl | (simp only [Look, cond, Nat.beq]; first | rfl | (congr 2; first | rfl | omega | (push_cast; omega)) | (simp; try omega))), trivial⟩)
  refine fw_cF rfl hb_4 ?_
  refine fw_xt ?_
  refine fw_te ?_
  refine fw_te ?_
  refine fw_be ?_
  refine fw_th ?_
  refine fw_sq ?_
  refine fw_rg rfl ?_
  refine fw_pu rfl ?_
  refine fw_dt ?_
  refine fw_rt ?_
  refine ⟨fun a h => ?_⟩
  have hi : i = L.length := by have h := of_decide_eq_false hb_4; omega
  rw [hi, List.take_length] at hall
  exact ow_ret1 rfl h.df (h.g 4 rfl) ⟨by rw [fnd_no hall], bW1⟩
set_option maxRecDepth 100000 in
set_option maxHeartbeats 4000000 in
theorem find_any (L : List EFl) (a : Option Addr) (n c : Nat) (id : Int) (w : World) (hS : SlR w 6 (.slice a n c) (L.map rowFl)) (hl : L.length ≤ 1000000) :
    Calls Try.prog 95 #[.slice a n c, .int .i64 id] w fun e w' => e = .returned (.int .i64 (findO L id)) ∧ Below w.heap.size w w' := by
  obtain rfl : n = L.length := by have := slR_len hS; simpa using this
  have hb0 := Below.refl w.heap.size w
  refine fw_en 8 [(0, .slice a L.length c), (1, .int .i64 id)] Try.func95 rfl Try.ntmps95 rfl ⟨rfl, rfl, trivial⟩ ?_
  refine fw_sq ?_
  refine fw_rg rfl ?_
  refine fw_bx rfl (cs := [.int .i64 id]) rfl ?_
  intro q1 W2 g5 s3 r4
  have := Nat.le_trans hb0.size g5
  have b6 := hb0.trans (s3.mono hb0.size)
  refine fw_pu rfl ?_
  refine fw_dt ?_
  refine fw_sq ?_
  refine fw_rg rfl ?_
  refine fw_pu rfl ?_
  refine fw_ex 6 ((.func (.func 118) #[] #[.pointer (some ⟨q1, 0, none⟩)])) rfl rfl rfl (fun a h => (run_mkFn (h.ev rfl))) ?_
  refine fw_ca Try.func117 rfl rfl rfl ((idxf_any L a _ c q1 id W2 (hS.below b6) hl r4)) ?_
  rintro _ V8 ⟨rfl, hb7⟩
  refine ⟨(.int .i64 (findO L id)), rfl, ?_⟩
  have b9 := b6.trans (hb7.mono b6.size)
  have r10 := r4.below hb7
  refine fw_pu rfl ?_
  refine fw_dt ?_
  refine fw_rt ?_
  refine ⟨fun a h => ?_⟩
  exact ow_ret1 rfl h.df (h.g 4 rfl) ⟨rfl, b9⟩
set_option maxRecDepth 100000 in
set_option maxHeartbeats 4000000 in
theorem publish_any (x : EFl) (w : World) :
    Calls Try.prog 91 #[.agg #[.int .i64 x.id, .string x.m.t, .string x.m.p, .int .i64 x.m.q, .bool x.m.r, .bool x.rc]] w fun e w' => e = .returned (.agg (rowPk (pubP x)).toArray) ∧ Below w.heap.size w w' := by
  have hb0 := Below.refl w.heap.size w
  refine fw_en 17 [(0, .agg #[.int .i64 x.id, .string x.m.t, .string x.m.p, .int .i64 x.m.q, .bool x.m.r, .bool x.rc])] Try.func91 rfl Try.ntmps91 rfl ⟨rfl, trivial⟩ ?_
  refine fw_sq ?_
  refine fw_rg rfl ?_
  refine fw_bx rfl (cs := [.int .i64 x.id, .string x.m.t, .string x.m.p, .int .i64 x.m.q, .bool x.m.r, .bool x.rc]) rfl ?_
  intro q1 W2 g5 s3 r4
  have := Nat.le_trans hb0.size g5
  have b6 := hb0.trans (s3.mono hb0.size)
  refine fw_al (t := 99) (u := fun q => .pointer (some ⟨q, 0, none⟩)) 2 [.int .i64 0, .string { data := #[] }, .bool false, .int .i64 0, .bool false, .string { data := #[] }, .string { data := #[] }, .int .i64 0, .bool false, .string { data := #[] }, .bool false, .string { data := #[] }, .bool false, .bool false, .int .i64 0, .slice none 0 0, .bool false, .int .i64 0, .bool false, .string { data := #[] }, .int .i64 0, .string { data := #[] }, .slice none 0 0, .slice none 0 0] rfl rfl rfl (fun a h => (run_allocOp (by simp [go_sem, Instr.alloc]))) ?_
  intro q7 W8 g11 s9 r10
  have := Nat.le_trans b6.size g11
  have := r4.lt g11
  have b12 := b6.trans (s9.mono b6.size)
  have r13 := r4.below s9
  refine fw_dt ?_
  refine fw_sq ?_
  refine fw_rg rfl ?_
  refine fw_pu rfl ?_
  refine fw_ld r13 rfl rfl ?_
  refine fw_al (t := 88) (u := fun q => .pointer (some ⟨q, 0, none⟩)) 3 [.string { data := #[] }, .string { data := #[] }, .int .i64 0, .bool false] rfl rfl rfl (fun a h => (run_allocOp (by simp [go_sem, Instr.alloc]))) ?_
  intro q14 W15 g18 s16 r17
  have := Nat.le_trans b12.size g18
  have := r13.lt g18
  have := r10.lt g18
  have b19 := b12.trans (s16.mono b12.size)
  have r20 := r13.below s16
  have r21 := r10.below s16
  refine fw_st r17 rfl rfl ?_
  intro W22 s23 r24
  have b25 := below_chg b19 s23 (by omega) b19.size
  have r26 := r20.chg s23 (by omega)
  have r27 := r21.chg s23 (by omega)
  refine fw_dt ?_
  refine fw_sq ?_
  refine fw_rg rfl ?_
  refine fw_pu rfl ?_
  refine fw_ld r24 rfl rfl ?_
  refine fw_pu rfl ?_
  refine fw_ld r24 rfl rfl ?_
  refine fw_pu rfl ?_
  refine fw_ld r24 rfl rfl ?_
  refine fw_pu rfl ?_
  refine fw_ld r24 rfl rfl ?_
  refine fw_pu rfl ?_
  refine fw_ld r26 rfl rfl ?_
  refine fw_ex 16 (.agg #[.int .i64 3, .string { data := #[] }, .bool false, .int .i64 0, .bool false, .string { data := #[] }, .string { data := #[] }, .int .i64 0, .bool false, .string { data := #[] }, .bool false, .string { data := #[] }, .bool false, .bool false, .int .i64 0, .slice none 0 0, .bool false, .int .i64 x.m.q, .bool x.m.r, .string x.m.t, .int .i64 x.id, .string x.m.p, .slice none 0 0, .slice none 0 0]) rfl rfl rfl (fun a h => (run_buildOp (bp6 (h.ev rfl) (h.ev rfl) (h.ev rfl) (h.ev rfl) (h.ev rfl) (h.ev rfl)) (by first | kernel_rfl | rfl))) ?_
  refine fw_st r27 rfl rfl ?_
  intro W28 s29 r30
  have b31 := below_chg b25 s29 (by omega) b25.size
  have r32 := r26.chg s29 (by omega)
  have r33 := r24.chg s29 (by omega)
  refine fw_dt ?_
  refine fw_rt ?_
  refine ⟨fun a h => ?_⟩
  exact ow_retCell rfl h.df (h.g 2 rfl) (run_loadVar_mid _ _ 0 _ [.int .i64 3, .string { data := #[] }, .bool false, .int .i64 0, .bool false, .string { data := #[] }, .string { data := #[] }, .int .i64 0, .bool false, .string { data := #[] }, .bool false, .string { data := #[] }, .bool false, .bool false, .int .i64 0, .slice none 0 0, .bool false, .int .i64 x.m.q, .bool x.m.r, .string x.m.t, .int .i64 x.id, .string x.m.p, .slice none 0 0, .slice none 0 0] _ (r30.range 0 _ (fun j v hj => by rw [Nat.zero_add j]; exact hj)) Try.underlying99 rfl (by kernel_rfl)) ⟨rfl, b31⟩
set_option maxRecDepth 100000 in
set_option maxHeartbeats 4000000 in
theorem release_any (id : Int) (w : World) :
    Calls Try.prog 90 #[.int .i64 id] w fun e w' => e = .returned (.agg (rowPk (relP id)).toArray) ∧ Below w.heap.size w w' := by
  have hb0 := Below.refl w.heap.size w
  refine fw_en 5 [(0, .int .i64 id)] Try.func90 rfl Try.ntmps90 rfl ⟨rfl, trivial⟩ ?_
  refine fw_sq ?_
  refine fw_rg rfl ?_
  refine fw_al (t := 99) (u := fun q => .pointer (some ⟨q, 0, none⟩)) 2 [.int .i64 0, .string { data := #[] }, .bool false, .int .i64 0, .bool false, .string { data := #[] }, .string { data := #[] }, .int .i64 0, .bool false, .string { data := #[] }, .bool false, .string { data := #[] }, .bool false, .bool false, .int .i64 0, .slice none 0 0, .bool false, .int .i64 0, .bool false, .string { data := #[] }, .int .i64 0, .string { data := #[] }, .slice none 0 0, .slice none 0 0] rfl rfl rfl (fun a h => (run_allocOp (by simp [go_sem, Instr.alloc]))) ?_
  intro q1 W2 g5 s3 r4
  have := Nat.le_trans hb0.size g5
  have b6 := hb0.trans (s3.mono hb0.size)
  refine fw_dt ?_
  refine fw_sq ?_
  refine fw_rg rfl ?_
  refine fw_pu rfl ?_
  refine fw_ex 4 (.agg #[.int .i64 6, .string { data := #[] }, .bool false, .int .i64 0, .bool false, .string { data := #[] }, .string { data := #[] }, .int .i64 0, .bool false, .string { data := #[] }, .bool false, .string { data := #[] }, .bool false, .bool false, .int .i64 0, .slice none 0 0, .bool false, .int .i64 0, .bool false, .string { data := #[] }, .int .i64 id, .string { data := #[] }, .slice none 0 0, .slice none 0 0]) rfl rfl rfl (fun a h => (run_buildOp (bp2 (h.ev rfl) (h.ev rfl)) (by first | kernel_rfl | rfl))) ?_
  refine fw_st r4 rfl rfl ?_
  intro W7 s8 r9
  have b10 := below_chg b6 s8 (by omega) b6.size
  refine fw_dt ?_
  refine fw_rt ?_
  refine ⟨fun a h => ?_⟩
  exact ow_retCell rfl h.df (h.g 2 rfl) (run_loadVar_mid _ _ 0 _ [.int .i64 6, .string { data := #[] }, .bool false, .int .i64 0, .bool false, .string { data := #[] }, .string { data := #[] }, .int .i64 0, .bool false, .string { data := #[] }, .bool false, .string { data := #[] }, .bool false, .bool false, .int .i64 0, .slice none 0 0, .bool false, .int .i64 0, .bool false, .string { data := #[] }, .int .i64 id, .string { data := #[] }, .slice none 0 0, .slice none 0 0] _ (r9.range 0 _ (fun j v hj => by rw [Nat.zero_add j]; exact hj)) Try.underlying99 rfl (by kernel_rfl)) ⟨rfl, b10⟩
set_option maxRecDepth 100000 in
set_option maxHeartbeats 4000000 in
theorem nextID_any (L : List EFl) (a : Option Addr) (n c : Nat) (k0 : Nat) (x0 z : Int) (w : World) (hS : SlR w 6 (.slice a n c) (L.map rowFl)) (hl : L.length ≤ 1000000) (hz0 : nxO k0 x0 L = some z) :
    Calls Try.prog 114 #[.int .i64 x0, .slice a n c] w fun e w' => e = .returned (.int .i64 z) ∧ Below w.heap.size w w' := by
  obtain rfl : n = L.length := by have := slR_len hS; simpa using this
  have hb0 := Below.refl w.heap.size w
  refine fw_en 13 [(0, .int .i64 x0), (1, .slice a L.length c)] Try.func114 rfl Try.ntmps114 rfl ⟨rfl, rfl, trivial⟩ ?_
  refine fw_sq ?_
  refine fw_rg rfl ?_
  refine fw_pu rfl ?_
  refine fw_dt ?_
  refine fw_bk ?_
  refine fw_lp (fun N K W => ∃ (k : Nat) (x : Int), N = k + 1 ∧ nxO k x L = some z ∧ K = [(0, .int .i64 x), (1, .slice a L.length c)] ∧ Below w.heap.size w W) _ _ ⟨k0, x0, rfl, hz0, rfl, hb0⟩ ⟨(by first | rfl | (simp only [Look, cond, Nat.beq]; first | rfl | (congr 2; first | rfl | omega | (push_cast; omega)) | (simp; try omega))), rfl, trivial⟩ ?_
  rintro N _ W1 ⟨k, x, rfl, hz, rfl, bW1⟩
  intro K3 hK3
  obtain ⟨k, rfl⟩ := nx_pos hz
  refine fw_bk ?_
  refine fw_sq ?_
  refine fw_rg rfl ?_
  refine fw_pu rfl ?_
  have htm := tmR x
  refine fw_ex 6 (.int .i64 (x.tmod 65535)) rfl rfl rfl (fun a h => (run_binOp (h.ev rfl) (h.ev rfl) (by simp [go_sem]) (remR _ _))) ?_
  refine fw_ex 7 (.int .i64 ((x.tmod 65535) + 1)) rfl rfl rfl (fun a h => (run_binOp (h.ev rfl) (h.ev rfl) (by simp [go_sem]) (addIw _ _ _ _ (by omega) (by omega) (by omega)))) ?_
  refine fw_pu rfl ?_
  refine fw_dt ?_
  refine fw_sq ?_
  refine fw_rg rfl ?_
  iterate 2 refine fw_pu rfl ?_
  refine fw_ca Try.func95 rfl rfl rfl ((find_any L a _ c (x.tmod 65535 + 1) W1 (hS.below bW1) hl)) ?_
  rintro _ V5 ⟨rfl, hb4⟩
  refine ⟨(.int .i64 (findO L (x.tmod 65535 + 1))), rfl, ?_⟩
  have b6 := bW1.trans (hb4.mono bW1.size)
  refine fw_pu rfl ?_
  refine fw_dt ?_
  rcases Bool.eq_false_or_eq_true ((decide ((findO L (x.tmod 65535 + 1)) < 0))) with hb_7 | hb_7
  · skip
    refine fw_cT rfl hb_7 ?_
    refine fw_sq ?_
    refine fw_rg rfl ?_
    iterate 2 refine fw_pu rfl ?_
    refine fw_dt ?_
    refine fw_rt ?_
    refine fw_br ?_
    refine fw_tr ?_
    refine fw_br ?_
    refine ⟨fun a h => ?_⟩
    exact ow_ret1 rfl h.df (h.g 4 rfl) ⟨by rw [nx_end hz hb_7], b6⟩
  refine fw_cF rfl hb_7 ?_
  refine fw_sk ?_
  refine fw_bn ?_
  exact fw_th (fw_gf (hK3 _ _ _ (by omega) ⟨k, (x.tmod 65535 + 1), rfl, (nx_on hz hb_7), rfl, b6⟩) ⟨(by first | rfl | (simp only [Look, cond, Nat.beq]; first | rfl | (congr 2; first | rfl | omega | (push_cast; omega)) | (simp; try omega))), rfl, trivial⟩)
set_option maxRecDepth 100000 in
set_option maxHeartbeats 4000000 in
theorem num23_any (x : Int) (w : World) :
    Calls Try.prog 55 #[.int .i64 x] w fun e w' => e = .returned (.int .i64 x) ∧ w = w' := by
  have hb0 := Below.refl w.heap.size w
  refine fw_en 4 [(0, .int .i64 x)] Try.func55 rfl Try.ntmps55 rfl ⟨rfl, trivial⟩ ?_
  refine fw_sq ?_
  refine fw_rg rfl ?_
  refine fw_pu rfl ?_
  refine fw_dt ?_
  refine fw_sq ?_
  refine fw_rg rfl ?_
  iterate 2 refine fw_pu rfl ?_
  refine fw_dt ?_
  refine fw_rt ?_
  refine ⟨fun a h => ?_⟩
  exact ow_ret1 rfl h.df (h.g 2 rfl) ⟨rfl, rfl⟩
end Go.Proofs.Ytcglmkcefenjcaa
