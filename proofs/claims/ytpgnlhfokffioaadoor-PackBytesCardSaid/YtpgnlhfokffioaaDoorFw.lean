/-
  Words of our own, of no program: walks over frames of which a list says what is known; the frame itself is never named.
-/
import Derived.Test.YtpgnlhfokffioaaDoorOv2
namespace Go
open Go.RowKit
abbrev Kn := List (Nat × Value)
def Look : Kn → Nat → Option Value
  | [], _ => none
  | (k, v) :: L, j => bif Nat.beq k j then some v else Look L j
def evL (L : Kn) : Operand → Option Value
  | .tmp j => Look L j
  | .const v => some v
  | _ => none
/-- A frame of n slots, of which a list says what is in them. -/
structure Has (n : Nat) (a : Act) (L : Kn) : Prop where
  sz : a.tmps.size = n
  df : a.defers = []
  at_ : ∀ j v, Look L j = some v → a.tmps[j]? = some v
theorem Has.g {n : Nat} {a : Act} {L : Kn} (h : Has n a L) (j : Nat) {v : Value} (e : Look L j = some v) : a.tmps[j]? = some v := h.at_ j v e
theorem Has.ev {n : Nat} {a : Act} {L : Kn} (h : Has n a L) {x : Operand} {v : Value} (e : evL L x = some v) : a.eval x = v := by
  cases x with
  | tmp j => exact eval_of (h.at_ j v e)
  | const u => simp only [evL, Option.some.injEq] at e; subst e; rfl
  | global _ => simp [evL] at e
  | func _ => simp [evL] at e
theorem Has.put {n : Nat} {a : Act} {L : Kn} (h : Has n a L) {d : Nat} {v : Value} (hd : Nat.blt d n = true) : Has n (a.put (some d) v) ((d, v) :: L) := by
  have hd' : d < n := by simpa [Nat.blt_eq] using hd
  refine ⟨(put_size _ _ _).trans h.sz, (put_defers _ _ _).trans h.df, fun j u hj => ?_⟩
  unfold Look at hj
  by_cases e : d = j
  · subst e
    simp only [Nat.beq_refl, cond_true, Option.some.injEq] at hj
    subst hj
    exact put_get _ _ _ (by rw [h.sz]; exact hd')
  · have e2 : Nat.beq d j = false := by
      cases hb : Nat.beq d j with
      | false => rfl
      | true => exact absurd (Nat.eq_of_beq_eq_true hb) e
    rw [e2, cond_false] at hj
    exact (put_far _ _ _ _ e).trans (h.at_ j u hj)
/-- What holds of every frame of which the list is true. -/
structure Fr (n : Nat) (L : Kn) (X : Act → World → Prop) (W : World) : Prop where
  out : ∀ a, Has n a L → X a W
/-- Types, as a walk asks for them. -/
structure TE where
  id : Nat
  row : Bool
  size : Nat
  offs : List Nat
  kind : Nat
def TE.okB (P : Program) (e : TE) : Bool :=
  match P.info? e.id, P.underlying e.id with
  | some i, some d => Nat.beq i.size e.size && (match d with
      | .struct fs => e.row && (Nat.beq e.kind 0 && (fs.toList.map (·.offset) == e.offs && fs.toList.all (fun f => match P.info? f.type with | some j => !(Nat.beq j.size 0) | none => false)))
      | .array _ _ => e.row && (Nat.beq e.kind 0 && e.offs.isEmpty)
      | .slice _ => !e.row && (Nat.beq e.kind 1 && e.offs.isEmpty)
      | .string => !e.row && (Nat.beq e.kind 2 && e.offs.isEmpty)
      | _ => !e.row && (Nat.beq e.kind 0 && e.offs.isEmpty))
  | _, _ => false
def teOf : List TE → Nat → Option TE
  | [], _ => none
  | e :: T, t => bif Nat.beq e.id t then some e else teOf T t
theorem teOf_ok {P : Program} : ∀ {T : List TE}, T.all (TE.okB P) = true → ∀ {t : Nat} {e : TE}, teOf T t = some e → e.okB P = true ∧ e.id = t
  | [], _, _, _, h => by simp [teOf] at h
  | e :: T, hT, t, e', h => by
    rw [List.all_cons, Bool.and_eq_true] at hT
    unfold teOf at h
    cases hb : Nat.beq e.id t with
    | true => rw [hb, cond_true, Option.some.injEq] at h; subst h; exact ⟨hT.1, Nat.eq_of_beq_eq_true hb⟩
    | false => rw [hb, cond_false] at h; exact teOf_ok hT.2 h
class TOk (P : Program) (T : outParam (List TE)) : Prop where
  ok : T.all (TE.okB P) = true
def offT (T : List TE) (s k : Nat) : Option Nat := match teOf T s with | some e => e.offs[k]? | none => none
def kindT (T : List TE) (s : Nat) : Nat := match teOf T s with | some e => e.kind | none => 0
def cmpL : BinOp → Int → Int → Option Value
  | .eql, s, t => some (.bool (s == t))
  | .neq, s, t => some (.bool (!(s == t)))
  | .lss, s, t => some (.bool (decide (s < t)))
  | .leq, s, t => some (.bool (decide (s ≤ t)))
  | .gtr, s, t => some (.bool (decide (t < s)))
  | .geq, s, t => some (.bool (decide (t ≤ s)))
  | _, _, _ => none
/-- Pure operations by what is known. -/
def pv (T : List TE) (L : Kn) : Op → Option Value
  | .move x => evL L x
  | .assign x => evL L x
  | .nilCheck x => match evL L x with | some (.pointer (some a)) => some (.pointer (some a)) | _ => none
  | .fieldAddr s x k => match evL L x with
    | some (.pointer (some ⟨b, i, none⟩)) => match offT T s k with | some o => some (.pointer (some ⟨b, i + o, none⟩)) | none => none
    | _ => none
  | .extract x i => match evL L x with | some (.tuple vs) => vs[i]? | _ => none
  | .pick c x y => match evL L c with | some (.bool true) => evL L x | some (.bool false) => evL L y | _ => none
  | .unOp .not _ x => match evL L x with | some (.bool b) => some (.bool (!b)) | _ => none
  | .binOp op _ x y _ => match evL L x with
    | some (.int .i64 s) => match evL L y with | some (.int .i64 t) => cmpL op s t | _ => none
    | _ => none
  | .call { callee := .builtin .len, args := ⟨[x]⟩, argTypes := ⟨[t]⟩, .. } => match kindT T t, evL L x with
    | 1, some (.slice _ n _) => some (.int .i64 (n : Int))
    | 2, some (.string s) => some (.int .i64 (s.size : Int))
    | _, _ => none
  | _ => none
section
variable {P : Program} {W : World}
theorem fieldAt_T {T : List TE} (hT : T.all (TE.okB P) = true) {s k o b i : Nat} (h : offT T s k = some o) : (Instr.fieldAt s (.pointer (some ⟨b, i, none⟩)) k).run P W = .ok (.pointer (some ⟨b, i + o, none⟩)) W := by
  unfold offT at h
  cases he : teOf T s with
  | none => rw [he] at h; cases h
  | some e =>
    rw [he] at h
    dsimp only at h
    obtain ⟨h1, h2⟩ := teOf_ok hT he
    subst h2
    unfold TE.okB at h1
    cases hi : P.info? e.id with
    | none => rw [hi] at h1; cases h1
    | some ie =>
      cases hu : P.underlying e.id with
      | none => rw [hi, hu] at h1; cases h1
      | some d =>
        rw [hi, hu] at h1
        simp only [Bool.and_eq_true] at h1
        obtain ⟨-, h1⟩ := h1
        cases d with
        | struct fs =>
          simp only [Bool.and_eq_true, beq_iff_eq] at h1
          obtain ⟨-, -, h3, h4⟩ := h1
          rw [← h3, List.getElem?_map] at h
          cases hf : fs.toList[k]? with
          | none => rw [hf] at h; cases h
          | some f =>
            rw [hf] at h
            simp only [Option.map_some, Option.some.injEq] at h
            have h5 := List.all_eq_true.1 h4 f (List.mem_of_getElem? hf)
            have hf' : fs[k]? = some f := by simpa using hf
            cases hj : P.info? f.type with
            | none => rw [hj] at h5; cases h5
            | some j =>
              rw [hj] at h5
              dsimp only at h5
              have hz : ¬ j.size = 0 := fun e0 => by rw [e0] at h5; exact absurd h5 (by decide)
              subst h
              by_cases h0 : f.offset = 0 <;> simp [go_sem, Instr.fieldAt, underlying, hu, hf', Instr.sureAddr, fieldPlace, sizeOf, typeInfo, hj, hz, Addr.add, h0]
        | array _ _ => simp only [Bool.and_eq_true, List.isEmpty_iff] at h1; rw [h1.2.2] at h; simp at h
        | slice _ => simp only [Bool.and_eq_true, List.isEmpty_iff] at h1; rw [h1.2.2] at h; simp at h
        | _ => simp only [Bool.and_eq_true, List.isEmpty_iff] at h1; rw [h1.2.2] at h; simp at h
theorem kindT_1 {T : List TE} (hT : T.all (TE.okB P) = true) {s : Nat} (h : kindT T s = 1) : ∃ e, P.underlying s = some (.slice e) := by
  unfold kindT at h
  cases he : teOf T s with
  | none => rw [he] at h; cases h
  | some e =>
    rw [he] at h
    dsimp only at h
    obtain ⟨h1, h2⟩ := teOf_ok hT he
    subst h2
    unfold TE.okB at h1
    cases hi : P.info? e.id with
    | none => rw [hi] at h1; cases h1
    | some ie =>
      cases hu : P.underlying e.id with
      | none => rw [hi, hu] at h1; cases h1
      | some d =>
        rw [hi, hu] at h1
        cases d <;> first | exact ⟨_, rfl⟩ | (simp only [Bool.and_eq_true, h] at h1; exact absurd h1.2.2.1 (by decide))
theorem kindT_2 {T : List TE} (hT : T.all (TE.okB P) = true) {s : Nat} (h : kindT T s = 2) : P.underlying s = some .string := by
  unfold kindT at h
  cases he : teOf T s with
  | none => rw [he] at h; cases h
  | some e =>
    rw [he] at h
    dsimp only at h
    obtain ⟨h1, h2⟩ := teOf_ok hT he
    subst h2
    unfold TE.okB at h1
    cases hi : P.info? e.id with
    | none => rw [hi] at h1; cases h1
    | some ie =>
      cases hu : P.underlying e.id with
      | none => rw [hi, hu] at h1; cases h1
      | some d =>
        rw [hi, hu] at h1
        cases d <;> first | rfl | (simp only [Bool.and_eq_true, h] at h1; exact absurd h1.2.2.1 (by decide))
theorem cmpL_run {op : BinOp} {s t : Int} {v : Value} {ty : TypeId} {x y : Operand} (h : cmpL op s t = some v) : (eqGuard op ty x y (.int .i64 s) (.int .i64 t)).run P W = .ok () W ∧ (binOp op ty (.int .i64 s) (.int .i64 t)).run P W = .ok v W := by
  cases op <;> simp only [cmpL, Option.some.injEq, reduceCtorEq] at h <;> subst h <;> refine ⟨rfl, ?_⟩ <;> simp [go_sem, bne]
theorem pv_sound {T : List TE} (hT : T.all (TE.okB P) = true) {n : Nat} {a : Act} {L : Kn} (h : Has n a L) {o : Oper} {v : Value} (hv : pv T L o.op = some v) (W : World) : (execOp a.eval o).run P W = .ok (.value v) W := by
  obtain ⟨dst, op, ty, pos, af, g⟩ := o
  dsimp only at hv
  unfold pv at hv
  split at hv
  · exact run_moveOp (h.ev hv)
  · exact run_assignOp (h.ev hv)
  · split at hv
    · rename_i e; cases hv; exact run_nilOp (h.ev e)
    · cases hv
  · split at hv
    · rename_i e
      split at hv
      · rename_i e2; cases hv; exact run_fieldAddr (h.ev e) (fieldAt_T hT e2)
      · cases hv
    · cases hv
  · split at hv
    · rename_i e; exact run_extractOp (h.ev e) hv
    · cases hv
  · split at hv
    · rename_i e; exact run_pickT (h.ev e) (h.ev hv)
    · rename_i e; exact run_pickF (h.ev e) (h.ev hv)
    · cases hv
  · split at hv
    · rename_i e; cases hv; exact run_notOp (h.ev e)
    · cases hv
  · split at hv
    · rename_i e
      split at hv
      · rename_i e2
        obtain ⟨h1, h2⟩ := cmpL_run (P := P) (W := W) hv
        exact run_binOp (h.ev e) (h.ev e2) h1 h2
      · cases hv
    · cases hv
  · split at hv
    · rename_i e1 e2; cases hv
      obtain ⟨e, he⟩ := kindT_1 hT e1
      exact run_lenOp he (h.ev e2)
    · rename_i e1 e2; cases hv
      exact run_lenStr (kindT_2 hT e1) (h.ev e2)
    · cases hv
  · cases hv
end
def wantL (ops : Array Oper) (L : Kn) (o : Oper) : Option Bool :=
  match o.guard with
  | none => some true
  | some (f, pol) => match (ops[f]?).bind (·.dst) with
    | some fs => match Look L fs with
      | some (.bool b) => some (bif b then pol else !pol)
      | some (.tuple ⟨[]⟩) => some false
      | _ => none
    | none => none
theorem wantL_sound {ops : Array Oper} {n : Nat} {a : Act} {L : Kn} {o : Oper} {b : Bool} (h : Has n a L) (hw : wantL ops L o = some b) : Region.wanted o (yielded ops a.tmps) = b := by
  unfold wantL at hw
  split at hw
  · rename_i hg; cases hw; exact wanted_none hg
  · rename_i f pol hg
    split at hw
    · rename_i fs hfs
      split at hw
      · rename_i c hl
        simp only [Option.some.injEq] at hw
        have hf := h.g fs hl
        simp only [Region.wanted, hg, yields hfs hf]
        subst hw
        cases c <;> cases pol <;> rfl
      · rename_i hl; cases hw; exact wanted_gone hg hfs (h.g fs hl)
      · cases hw
    · cases hw
def stepP (T : List TE) (ops : Array Oper) (n : Nat) (L : Kn) (o : Oper) : Option Kn :=
  match o.dst with
  | none => none
  | some d => bif Nat.blt d n then (match wantL ops L o with
    | some true => (match pv T L o.op with | some v => some ((d, v) :: L) | none => none)
    | some false => some ((d, undef) :: L)
    | none => none) else none
theorem stepP_sound {P : Program} {T : List TE} (hT : T.all (TE.okB P) = true) {ops : Array Oper} {n : Nat} {L L' : Kn} {o : Oper} (hs : stepP T ops n L o = some L') : ∃ d v, o.dst = some d ∧ Nat.blt d n = true ∧ L' = (d, v) :: L ∧
    ((wantL ops L o = some true ∧ ∀ a, Has n a L → ∀ W, (execOp a.eval o).run P W = .ok (.value v) W) ∨ (wantL ops L o = some false ∧ v = undef)) := by
  unfold stepP at hs
  split at hs
  · cases hs
  · rename_i d hd
    cases hb : Nat.blt d n with
    | false => rw [hb] at hs; cases hs
    | true =>
      rw [hb, cond_true] at hs
      split at hs
      · rename_i hw
        split at hs
        · rename_i v hv; cases hs; exact ⟨d, v, hd, hb, rfl, .inl ⟨hw, fun a ha W => pv_sound hT ha hv W⟩⟩
        · cases hs
      · rename_i hw; cases hs; exact ⟨d, undef, hd, hb, rfl, .inr ⟨hw, rfl⟩⟩
      · cases hs
/-- Where a load reads: the slot, the block, the place, how many cells (none: one). -/
def loadC (T : List TE) (ops : Array Oper) (n : Nat) (L : Kn) (o : Oper) : Option (Nat × Nat × Nat × Option Nat) :=
  match o.dst, o.op with
  | some d, .load t x => bif Nat.blt d n then (match wantL ops L o with
    | some true => (match evL L x, teOf T t with
      | some (.pointer (some ⟨q, j, none⟩)), some e => some (d, q, j, bif e.row then some e.size else none)
      | _, _ => none)
    | _ => none) else none
  | _, _ => none
def ldv : Option Nat → List Value → Nat → Option Value
  | none, vs, j => vs[j]?
  | some m, vs, j => bif Nat.ble (j + m) vs.length then some (.agg ((vs.drop j).take m).toArray) else none
def evLs (L : Kn) : List Operand → Option (List Value)
  | [] => some []
  | x :: xs => match evL L x, evLs L xs with | some v, some vs => some (v :: vs) | _, _ => none
theorem evLs_sound {n : Nat} {a : Act} {L : Kn} (h : Has n a L) : ∀ {xs : List Operand} {vs : List Value}, evLs L xs = some vs → xs.map a.eval = vs
  | [], vs, e => by simp [evLs] at e; subst e; rfl
  | x :: xs, vs, e => by
    unfold evLs at e
    split at e
    · rename_i v vs' e1 e2; cases e; rw [List.map_cons, h.ev e1, evLs_sound h e2]
    · cases e
def callC (ops : Array Oper) (n : Nat) (L : Kn) (o : Oper) : Option (Nat × FuncId × List Value) :=
  match o.dst, o.op with
  | some d, .call { callee := .value (.func f), args := ⟨xs⟩, .. } => bif Nat.blt d n then (match wantL ops L o with
    | some true => (match evLs L xs with | some vs => some (d, f, vs) | none => none)
    | _ => none) else none
  | _, _ => none
def setL : List Value → Nat → List Value → List Value
  | vs, _, [] => vs
  | vs, j, c :: cs => setL (vs.set j c) (j + 1) cs
/-- A row behind a store. -/
def setR (vs : List Value) (j : Nat) (cs : List Value) : List Value := bif Nat.beq j 0 && Nat.beq cs.length vs.length then cs else setL vs j cs
/-- What a store writes, and where. -/
def storeC (T : List TE) (ops : Array Oper) (L : Kn) (o : Oper) : Option (Nat × Nat × List Value) :=
  match o.dst, o.op with
  | none, .store t x y => (match wantL ops L o with
    | some true => (match evL L x, evL L y, teOf T t with
      | some (.pointer (some ⟨q, j, none⟩)), some v, some e => bif e.row then (match v with | .agg ⟨cs⟩ => bif Nat.beq cs.length e.size then some (q, j, cs) else none | _ => none) else bif Nat.beq e.size 1 then some (q, j, [v]) else none
      | _, _, _ => none)
    | _ => none)
  | _, _ => none
def stB (vs : List Value) (j : Nat) (cs : List Value) : Bool := Nat.ble (j + cs.length) vs.length && cs.all (·.oneCell')
def boxC (ops : Array Oper) (n : Nat) (L : Kn) (o : Oper) : Option (Nat × TypeId × Value) :=
  match o.dst, o.op with
  | some d, .box t x => bif Nat.blt d n then (match wantL ops L o with
    | some true => (match evL L x with | some v => some (d, t, v) | none => none)
    | _ => none) else none
  | _, _ => none
end Go
namespace Go.Proofs.YtpgnlhfokffioaaDoor
open Go.RowKit Go.Lib
section
variable {P : Program} {Q : Exit → Act → World → Prop} {M : Act → World → Prop} {W : World} {n : Nat} {L L' : Kn} {ops : Array Oper} {o : Oper} {l : List Oper} {d q j : Nat} {v : Value} {vs cs : List Value}
theorem gr_trans {w w1 w2 : World} {r : Option Nat} (h1 : w.grownBy w1 r) (h2 : w1.grownBy w2 r) : w.grownBy w2 r := ⟨h2.os.trans h1.os, h2.tape.trans h1.tape, h2.output.trans h1.output, Nat.le_trans h1.size h2.size, fun k hk hn => (h2.block k (Nat.lt_of_lt_of_le hk h1.size) hn).trans (h1.block k hk hn)⟩
theorem gr_refl (w : World) (r : Option Nat) : w.grownBy w r := ⟨rfl, rfl, rfl, Nat.le_refl _, fun _ _ _ => rfl⟩
theorem gr_sets (q : Nat) : ∀ (cs : List Value) (j : Nat) (W : World), W.grownBy (W.setCells q j cs) (some q)
  | [], _, W => gr_refl W _
  | c :: cs, j, W => gr_trans (grown_set1 W q j c) (gr_sets q cs (j + 1) _)
theorem setL_len : ∀ (cs vs : List Value) (j : Nat), (setL vs j cs).length = vs.length
  | [], _, _ => rfl
  | c :: cs, vs, j => by unfold setL; rw [setL_len cs, List.length_set]
theorem row_sets {q : Nat} : ∀ (cs vs : List Value) (j : Nat) (W : World), RowAt W q vs → j + cs.length ≤ vs.length → RowAt (W.setCells q j cs) q (setL vs j cs)
  | [], _, _, _, h, _ => h
  | c :: cs, vs, j, W, h, hl => row_sets cs _ _ _ (h.set1 j c (by simp only [List.length_cons] at hl; omega)) (by simp only [List.length_cons] at hl; rw [List.length_set]; omega)
theorem setL_get : ∀ (cs vs : List Value) (j i : Nat), j + cs.length ≤ vs.length → j ≤ i → i < j + cs.length → (setL vs j cs)[i]? = cs[i - j]?
  | [], _, _, _, _, _, h => by simp at h; omega
  | c :: cs, vs, j, i, hl, h1, h2 => by
    simp only [List.length_cons] at hl h2
    unfold setL
    by_cases e : j = i
    · subst e
      have key : ∀ (cs vs : List Value) (k i : Nat), i < k → (setL vs k cs)[i]? = vs[i]? := by
        intro cs
        induction cs with
        | nil => intro vs k i _; rfl
        | cons c cs ih => intro vs k i hk; unfold setL; rw [ih _ _ _ (by omega), List.getElem?_set_ne (by omega)]
      rw [key _ _ _ _ (by omega), List.getElem?_set_self (by omega), Nat.sub_self]; rfl
    · rw [setL_get cs _ (j + 1) i (by rw [List.length_set]; omega) (by omega) (by omega), show i - j = (i - (j + 1)) + 1 by omega]; rfl
theorem setR_eq (vs : List Value) (j : Nat) (cs : List Value) : setR vs j cs = setL vs j cs := by
  unfold setR
  cases hb : (Nat.beq j 0 && Nat.beq cs.length vs.length) with
  | false => rfl
  | true =>
    rw [Bool.and_eq_true] at hb
    have h0 := Nat.eq_of_beq_eq_true hb.1
    have hl := Nat.eq_of_beq_eq_true hb.2
    subst h0
    rw [cond_true]
    apply List.ext_getElem?
    intro i
    by_cases hi : i < cs.length
    · rw [setL_get cs vs 0 i (by omega) (by omega) (by omega), Nat.sub_zero]
    · rw [List.getElem?_eq_none (by omega), List.getElem?_eq_none (by rw [setL_len]; omega)]
/-- A row of another block, behind a store. -/
theorem RowAt.chg {W' : World} {g : Nat} (h : RowAt W q vs) (s : W.grownBy W' (some g)) (hn : q ≠ g) : RowAt W' q vs := rowAt_keep h s (fun e => hn (by injection e))
theorem below_chg {B g : Nat} {W0 W W' : World} (h : Below B W0 W) (s : W.grownBy W' (some g)) (hg : B ≤ g) (hB : B ≤ W.heap.size) : Below B W0 W' := h.trans ⟨s.os, s.tape, s.output, s.size, fun k hk => s.block k (by omega) (fun e => by injection e; omega)⟩
theorem RowAt.lt {g : Nat} (h : RowAt W q vs) (hg : W.heap.size ≤ g) : q < g := Nat.lt_of_lt_of_le h.2.2 hg
theorem loadC_run {T : List TE} (hT : T.all (TE.okB P) = true) {z : Option Nat} {a : Act} (h : Has n a L) (hl : loadC T ops n L o = some (d, q, j, z)) (r : RowAt W q vs) (hv : ldv z vs j = some v) : (execOp a.eval o).run P W = .ok (.value v) W ∧ o.dst = some d ∧ Nat.blt d n = true ∧ wantL ops L o = some true := by
  obtain ⟨dst, op, ty, pos, af, g⟩ := o
  unfold loadC at hl
  dsimp only at hl
  split at hl
  · rename_i d' t x
    cases hb : Nat.blt d' n with
    | false => rw [hb] at hl; cases hl
    | true =>
      rw [hb, cond_true] at hl
      split at hl
      · rename_i hw
        split at hl
        · rename_i q' j' e he hte
          simp only [Option.some.injEq, Prod.mk.injEq] at hl
          obtain ⟨rfl, rfl, rfl, hz⟩ := hl
          refine ⟨run_loadOp (h.ev he) ?_, rfl, hb, hw⟩
          obtain ⟨h1, h2⟩ := teOf_ok hT hte
          subst h2
          unfold TE.okB at h1
          cases hi : P.info? e.id with
          | none => rw [hi] at h1; cases h1
          | some ie =>
            cases hu : P.underlying e.id with
            | none => rw [hi, hu] at h1; cases h1
            | some dd =>
              rw [hi, hu] at h1
              dsimp only at h1
              rw [Bool.and_eq_true] at h1
              obtain ⟨hsz, h1⟩ := h1
              have hsz' := Nat.eq_of_beq_eq_true hsz
              cases hr : e.row with
              | true =>
                rw [hr, cond_true] at hz
                subst hz
                unfold ldv at hv
                dsimp only at hv
                cases hble : Nat.ble (j' + e.size) vs.length with
                | false => rw [hble] at hv; cases hv
                | true =>
                  rw [hble, cond_true] at hv
                  have hle := Nat.le_of_ble_eq_true hble
                  cases hv
                  refine run_loadN (dsc := dd) ((vs.drop j').take e.size) r (mid_row j' e.size vs _ rfl) hu ?_ (by rw [hi, Option.map_some, hsz', List.length_take, List.length_drop]; congr 1; omega)
                  cases dd <;> first | rfl | (simp [hr] at h1)
              | false =>
                rw [hr, cond_false] at hz
                subst hz
                have hc := r.cell hv
                have hag : ∀ w, (isAgg e.id).run P w = .ok false w := fun w => by
                  cases dd <;> first | (simp [go_sem, isAgg, underlying, hu]; done) | (simp [hr] at h1)
                simp [go_sem, Instr.loadAt, Instr.sureAddr, loadVar, hag, hc]
        · cases hl
      · cases hl
  · cases hl
theorem storeC_run {T : List TE} (hT : T.all (TE.okB P) = true) {a : Act} (h : Has n a L) (hs : storeC T ops L o = some (q, j, cs)) (r : RowAt W q vs) (hb : stB vs j cs = true) : (execOp a.eval o).run P W = .ok .skip (W.setCells q j cs) ∧ o.dst = none ∧ wantL ops L o = some true := by
  obtain ⟨dst, op, ty, pos, af, g⟩ := o
  unfold stB at hb
  rw [Bool.and_eq_true] at hb
  have hle := Nat.le_of_ble_eq_true hb.1
  unfold storeC at hs
  dsimp only at hs
  split at hs
  · rename_i t x y
    split at hs
    · rename_i hw
      split at hs
      · rename_i q' j' v e hx hy hte
        obtain ⟨h1, h2⟩ := teOf_ok hT hte
        subst h2
        unfold TE.okB at h1
        cases hi : P.info? e.id with
        | none => rw [hi] at h1; cases h1
        | some ie =>
          cases hu : P.underlying e.id with
          | none => rw [hi, hu] at h1; cases h1
          | some dd =>
            rw [hi, hu] at h1
            dsimp only at h1
            rw [Bool.and_eq_true] at h1
            have hsz := Nat.eq_of_beq_eq_true h1.1
            cases hr : e.row with
            | true =>
              rw [hr, cond_true] at hs
              split at hs
              · rename_i cs' 
                cases hq : Nat.beq cs'.length e.size with
                | false => rw [hq] at hs; cases hs
                | true =>
                  rw [hq, cond_true] at hs
                  simp only [Option.some.injEq, Prod.mk.injEq] at hs
                  obtain ⟨rfl, rfl, rfl⟩ := hs
                  have hlen := Nat.eq_of_beq_eq_true hq
                  exact ⟨run_storeOp (h.ev hx) (h.ev hy) (run_storeN (xs := cs') r hle (by rw [hi, Option.map_some, hsz, hlen]) hb.2), rfl, hw⟩
              · cases hs
            | false =>
              rw [hr, cond_false] at hs
              cases hq : Nat.beq e.size 1 with
              | false => rw [hq] at hs; cases hs
              | true =>
                rw [hq, cond_true] at hs
                simp only [Option.some.injEq, Prod.mk.injEq] at hs
                obtain ⟨rfl, rfl, rfl⟩ := hs
                have h1c := hb.2
                simp only [List.all_cons, List.all_nil, Bool.and_true] at h1c
                simp only [List.length_singleton] at hle
                exact ⟨run_storeOp (h.ev hx) (h.ev hy) (run_store1 r (by omega) (by rw [hi, Option.map_some, hsz, Nat.eq_of_beq_eq_true hq]) h1c), rfl, hw⟩
      · cases hs
    · cases hs
  · cases hs
theorem callC_run {f : FuncId} {fn : Func} {a : Act} {xs : List Value} (h : Has n a L) (hr : callC ops n L o = some (d, f, xs)) (hf : P.funcs[f]? = some fn) (hn : (fn.name == "runtime.NumGoroutine") = false) (hb : fn.body.isNone = false) :
    (execOp a.eval o).run P W = .ok (.enter f xs.toArray) W ∧ o.dst = some d ∧ Nat.blt d n = true ∧ wantL ops L o = some true := by
  obtain ⟨dst, op, ty, pos, af, g⟩ := o
  unfold callC at hr
  dsimp only at hr
  split at hr
  · rename_i d' f' ys _ 
    cases hbl : Nat.blt d' n with
    | false => rw [hbl] at hr; cases hr
    | true =>
      rw [hbl, cond_true] at hr
      split at hr
      · rename_i hw
        split at hr
        · rename_i us hys
          simp only [Option.some.injEq, Prod.mk.injEq] at hr
          obtain ⟨rfl, rfl, rfl⟩ := hr
          have he := evLs_sound h hys
          exact ⟨run_callOp hf hn hb (by rw [← he]; simp), rfl, hbl, hw⟩
        · cases hr
      · cases hr
  · cases hr
theorem boxC_run {t : TypeId} {a : Act} (h : Has n a L) (hb : boxC ops n L o = some (d, t, v)) : (execOp a.eval o).run P W = .ok (.value (.pointer (some ⟨W.heap.size, 0, none⟩))) (W.alloc (.cells v.cells t)) ∧ o.dst = some d ∧ Nat.blt d n = true ∧ wantL ops L o = some true := by
  obtain ⟨dst, op, ty, pos, af, g⟩ := o
  unfold boxC at hb
  dsimp only at hb
  split at hb
  · rename_i d' t' x
    cases hbl : Nat.blt d' n with
    | false => rw [hbl] at hb; cases hb
    | true =>
      rw [hbl, cond_true] at hb
      split at hb
      · rename_i hw
        split at hb
        · rename_i u hx
          simp only [Option.some.injEq, Prod.mk.injEq] at hb
          obtain ⟨rfl, rfl, rfl⟩ := hb
          exact ⟨run_boxOp (h.ev hx) (by simp [go_sem, Instr.box]), rfl, hbl, hw⟩
        · cases hb
      · cases hb
  · cases hb
/-! a list of operations, one behind the other -/
theorem fw_pu {T : List TE} [hTk : TOk P T] (hs : stepP T ops n L o = some L') (k : Fr n L' (WL P ops Q l) W) : Fr n L (WL P ops Q (o :: l)) W := by
  obtain ⟨d, v, hd, hb, rfl, ⟨hw, hr⟩ | ⟨hw, rfl⟩⟩ := stepP_sound hTk.ok hs
  · exact ⟨fun a h => owl_run (wantL_sound h hw) d v W hd (hr a h W) (k.out _ (h.put hb))⟩
  · exact ⟨fun a h => owl_no (wantL_sound h hw) d hd (k.out _ (h.put hb))⟩
theorem fw_ld {T : List TE} [hTk : TOk P T] {z : Option Nat} (r : RowAt W q vs) (hl : loadC T ops n L o = some (d, q, j, z)) (hv : ldv z vs j = some v) (k : Fr n ((d, v) :: L) (WL P ops Q l) W) : Fr n L (WL P ops Q (o :: l)) W :=
  ⟨fun a h => by
    obtain ⟨h1, h2, h3, h4⟩ := loadC_run hTk.ok h hl r hv
    exact owl_run (wantL_sound h h4) d v W h2 h1 (k.out _ (h.put h3))⟩
theorem fw_st {T : List TE} [hTk : TOk P T] (r : RowAt W q vs) (hs : storeC T ops L o = some (q, j, cs)) (hb : stB vs j cs = true) (k : ∀ W', W.grownBy W' (some q) → RowAt W' q (setR vs j cs) → Fr n L (WL P ops Q l) W') : Fr n L (WL P ops Q (o :: l)) W :=
  ⟨fun a h => by
    obtain ⟨h1, h2, h3⟩ := storeC_run hTk.ok h hs r hb
    have hle : j + cs.length ≤ vs.length := by unfold stB at hb; rw [Bool.and_eq_true] at hb; exact Nat.le_of_ble_eq_true hb.1
    exact owl_skip (wantL_sound h h3) _ h2 h1 ((k _ (gr_sets q cs j W) (by rw [setR_eq]; exact row_sets cs vs j W r hle)).out _ h)⟩
theorem fw_ca {f : FuncId} {fn : Func} {xs : List Value} {R : Ending → World → Prop} (hf : P.funcs[f]? = some fn) (hn : (fn.name == "runtime.NumGoroutine") = false) (hb : fn.body.isNone = false) (hr : callC ops n L o = some (d, f, xs)) (hc : Calls P f xs.toArray W R) (k : ∀ e w', R e w' → ∃ v, e = .returned v ∧ Fr n ((d, v) :: L) (WL P ops Q l) w') : Fr n L (WL P ops Q (o :: l)) W :=
  ⟨fun a h => by
    obtain ⟨h1, h2, h3, h4⟩ := callC_run (W := W) h hr hf hn hb
    exact owl_call (wantL_sound h h4) d (fun v w' => Fr n ((d, v) :: L) (WL P ops Q l) w') h2 f _ h1 (hc.mono fun e w' he => k e w' he) (fun v w' hv => hv.out _ (h.put h3))⟩
theorem fw_al {t : TypeId} {u : Nat → Value} (d : Nat) (cs : List Value) (hw : wantL ops L o = some true) (hd : o.dst = some d) (hb : Nat.blt d n = true) (hr : ∀ a, Has n a L → (execOp a.eval o).run P W = .ok (.value (u W.heap.size)) (W.alloc (.cells cs.toArray t))) (k : ∀ q W', W.heap.size ≤ q → Below W.heap.size W W' → RowAt W' q cs → Fr n ((d, u q) :: L) (WL P ops Q l) W') : Fr n L (WL P ops Q (o :: l)) W :=
  ⟨fun a h => owl_run (wantL_sound h hw) d _ _ hd (hr a h) ((k _ _ (Nat.le_refl _) ((Below.refl _ W).alloc (Nat.le_refl _) _) (rowAt_alloc W cs t)).out _ (h.put hb))⟩
theorem fw_bx {t : TypeId} (hr : boxC ops n L o = some (d, t, v)) (hv : v.cells.toList = cs) (k : ∀ q W', W.heap.size ≤ q → Below W.heap.size W W' → RowAt W' q cs → Fr n ((d, .pointer (some ⟨q, 0, none⟩)) :: L) (WL P ops Q l) W') : Fr n L (WL P ops Q (o :: l)) W :=
  ⟨fun a h => by
    obtain ⟨h1, h2, h3, h4⟩ := boxC_run (P := P) (W := W) h hr
    subst hv
    exact owl_run (wantL_sound h h4) d _ _ h2 h1 ((k _ _ (Nat.le_refl _) ((Below.refl _ W).alloc (Nat.le_refl _) _) (by have := rowAt_alloc W v.cells.toList t; rwa [Array.toArray_toList] at this)).out _ (h.put h3))⟩
theorem fw_ex (d : Nat) (v : Value) (hw : wantL ops L o = some true) (hd : o.dst = some d) (hb : Nat.blt d n = true) (hr : ∀ a, Has n a L → (execOp a.eval o).run P W = .ok (.value v) W) (k : Fr n ((d, v) :: L) (WL P ops Q l) W) : Fr n L (WL P ops Q (o :: l)) W :=
  ⟨fun a h => owl_run (wantL_sound h hw) d v W hd (hr a h) (k.out _ (h.put hb))⟩
theorem fw_to {V : Value → World → Prop} (d : Nat) (hw : wantL ops L o = some true) (hd : o.dst = some d) (hb : Nat.blt d n = true) (hop : ∀ a, Has n a L → opTo P o a W V) (k : ∀ v w', V v w' → Fr n ((d, v) :: L) (WL P ops Q l) w') : Fr n L (WL P ops Q (o :: l)) W :=
  ⟨fun a h => owl_wp (wantL_sound h hw) (hop a h) (fun v w' hv => by rw [hd]; exact (k v w' hv).out _ (h.put hb))⟩
theorem fw_dn (h : Fr n L (Q .normal) W) : Fr n L (WL P ops Q []) W := ⟨fun a ha => wl_done (h.out a ha)⟩
theorem fw_dt (h : Fr n L M W) : Fr n L (WL P ops (Exit.then M Q) []) W := ⟨fun a ha => wl_done (h.out a ha)⟩
/-! code -/
theorem fw_rg {id : Nat} {pre : List Oper} (hp : ops.toList = pre) (h : Fr n L (WL P ops Q pre) W) : Fr n L ((Code.region id ops false).wp P Q) W := ⟨fun a ha => owl_region pre hp (h.out a ha)⟩
theorem fw_sq {c1 c2 : Code} (h : Fr n L (c1.wp P (Exit.then (fun a w => c2.wp P Q a w) Q)) W) : Fr n L ((Code.seq c1 c2).wp P Q) W := ⟨fun a ha => wp_seq (h.out a ha)⟩
theorem fw_rq {id : Nat} {pre : List Oper} {c2 : Code} (hp : ops.toList = pre) (h : Fr n L (WL P ops (Exit.then (fun a w => c2.wp P Q a w) Q) pre) W) : Fr n L ((Code.seq (.region id ops false) c2).wp P Q) W := fw_sq (fw_rg hp h)
theorem fw_sk (h : Fr n L (Q .normal) W) : Fr n L (Code.skip.wp P Q) W := ⟨fun a ha => wp_skip (h.out a ha)⟩
theorem fw_xt {id : Nat} (h : Fr n L (Q (.exit id)) W) : Fr n L ((Code.exit id).wp P Q) W := ⟨fun a ha => wp_exit (h.out a ha)⟩
theorem fw_rt (h : Fr n L (Q .ret) W) : Fr n L (Code.ret.wp P Q) W := ⟨fun a ha => wp_ret (h.out a ha)⟩
theorem fw_bk {id : Nat} {c : Code} (h : Fr n L (c.wp P (Exit.inBlock id Q)) W) : Fr n L ((Code.block id c).wp P Q) W := ⟨fun a ha => wp_block (h.out a ha)⟩
theorem fw_go {i : Nat} (h : Fr n L (Q (.goto i)) W) : Fr n L ((Code.goto i).wp P Q) W := ⟨fun a ha => wp_goto (h.out a ha)⟩
theorem fw_cT {c : Operand} {x y : Code} {t : Bool} (hc : evL L c = some (.bool t)) (ht : t = true) (h : Fr n L (x.wp P Q) W) : Fr n L ((Code.cond c x y).wp P Q) W := ⟨fun a ha => ow_true (by rw [ha.ev hc, ht]) (h.out a ha)⟩
theorem fw_cF {c : Operand} {x y : Code} {t : Bool} (hc : evL L c = some (.bool t)) (ht : t = false) (h : Fr n L (y.wp P Q) W) : Fr n L ((Code.cond c x y).wp P Q) W := ⟨fun a ha => ow_false (by rw [ha.ev hc, ht]) (h.out a ha)⟩
theorem fw_th (h : Fr n L M W) : Fr n L (Exit.then M Q .normal) W := ⟨fun a ha => h.out a ha⟩
theorem fw_te {id : Nat} (h : Fr n L (Q (.exit id)) W) : Fr n L (Exit.then M Q (.exit id)) W := ⟨fun a ha => h.out a ha⟩
theorem fw_tg {i : Nat} (h : Fr n L (Q (.goto i)) W) : Fr n L (Exit.then M Q (.goto i)) W := ⟨fun a ha => h.out a ha⟩
theorem fw_bg {id i : Nat} (h : Fr n L (Q (.goto i)) W) : Fr n L (Exit.inBlock id Q (.goto i)) W := ⟨fun a ha => h.out a ha⟩
theorem fw_bn {id : Nat} (h : Fr n L (Q .normal) W) : Fr n L (Exit.inBlock id Q .normal) W := ⟨fun a ha => h.out a ha⟩
theorem fw_be {id : Nat} (h : Fr n L (Q .normal) W) : Fr n L (Exit.inBlock id Q (.exit id)) W := ⟨fun a ha => ow_blk_exit id (h.out a ha)⟩
theorem fw_bf {id i : Nat} (hn : i ≠ id) (h : Fr n L (Q (.exit i)) W) : Fr n L (Exit.inBlock id Q (.exit i)) W := ⟨fun a ha => ow_blk_far id i hn (h.out a ha)⟩
theorem fw_tr (h : Fr n L (Q .ret) W) : Fr n L (Exit.then M Q .ret) W := ⟨fun a ha => h.out a ha⟩
theorem fw_br {id : Nat} (h : Fr n L (Q .ret) W) : Fr n L (Exit.inBlock id Q .ret) W := ⟨fun a ha => h.out a ha⟩
/-- A flag that is known stands as it is. -/
theorem fw_kn {X : Act → World → Prop} (j : Nat) {t b : Bool} (hk : Look L j = some (.bool t)) (hb : t = b) (h : Fr n ((j, .bool b) :: L) X W) : Fr n L X W := by
  subst hb
  refine ⟨fun a ha => h.out a ⟨ha.sz, ha.df, fun i u hi => ?_⟩⟩
  unfold Look at hi
  cases he : Nat.beq j i with
  | true =>
    rw [he, cond_true, Option.some.injEq] at hi
    subst hi
    rw [← Nat.eq_of_beq_eq_true he]; exact ha.g j hk
  | false => rw [he, cond_false] at hi; exact ha.at_ i u hi
/-- Less is known. -/
def SubL (L : Kn) : Kn → Prop
  | [] => True
  | p :: K => Look L p.1 = some p.2 ∧ SubL L K
theorem SubL.look {L : Kn} : ∀ {K : Kn}, SubL L K → ∀ {j : Nat} {v : Value}, Look K j = some v → Look L j = some v
  | [], _, _, _, h => by simp [Look] at h
  | (k, u) :: K, hs, j, v, h => by
    unfold Look at h
    cases he : Nat.beq k j with
    | true => rw [he, cond_true] at h; rw [← Nat.eq_of_beq_eq_true he, ← h]; exact hs.1
    | false => rw [he, cond_false] at h; exact SubL.look hs.2 h
theorem fw_fg {X : Act → World → Prop} (K : Kn) (hs : SubL L K) (h : Fr n K X W) : Fr n L X W := ⟨fun a ha => h.out a ⟨ha.sz, ha.df, fun j v hj => ha.at_ j v (hs.look hj)⟩⟩
theorem fw_gf {X : Act → World → Prop} {K : Kn} (h : Fr n K X W) (hs : SubL L K) : Fr n L X W := fw_fg K hs h
/-- A loop: a relation at its head, a number that goes down. -/
theorem fw_lp {c : Code} (J : Nat → Kn → World → Prop) (n0 : Nat) (K : Kn) (h0 : J n0 K W) (hs : SubL L K) (round : ∀ N L W, J N L W → ∀ Z : Act → World → Prop, (∀ N' K W', N' < N → J N' K W' → Fr n K Z W') → Fr n L (c.wp P (Exit.then Z Q)) W) : Fr n L ((Code.loop c).wp P Q) W := by
  refine ⟨fun a ha => ow_loop (fun N a W => ∃ K, J N K W ∧ Has n a K) n0 ⟨K, h0, ha.sz, ha.df, fun j v hj => ha.at_ j v (hs.look hj)⟩ ?_⟩
  rintro N a W ⟨K, hJ, hK⟩ Z hZ
  exact (round N K W hJ Z fun N' K' W' hlt hJ' => ⟨fun a' ha' => hZ N' a' W' hlt ⟨K', hJ', ha'⟩⟩).out a hK
/-- A statement, and what stands behind it. -/
theorem fw_md {x y : Code} (J : Kn → World → Prop) (h1 : ∀ Z : Act → World → Prop, (∀ K W', J K W' → Fr n K Z W') → Fr n L (x.wp P (Exit.then Z Q)) W) (h2 : ∀ K W', J K W' → Fr n K (y.wp P Q) W') : Fr n L ((Code.seq x y).wp P Q) W :=
  fw_sq (h1 (fun a w => y.wp P Q a w) (fun K W' hJ => ⟨fun a ha => (h2 K W' hJ).out a ha⟩))
theorem fw_en {f : FuncId} {fn : Func} {body : Code} {args : Array Value} {R : Ending → World → Prop} (n : Nat) (K : Kn) (hf : P.funcs[f]? = some fn) (hb : fn.body = some body) (hn : fn.ntmps = n) (hle : Nat.ble args.size n = true) (hK : SubL (args.toList.zipIdx.map fun p => (p.2, p.1)) K) (h : Fr n K (body.wp P (bodyPost P fn R)) W) : Calls P f args W R := by
  refine ow_enter n hf hb hn (Nat.le_of_ble_eq_true hle) fun a h1 h2 h3 => h.out a ⟨h1, h2, fun j v hj => h3 j v ?_⟩
  have hj' := hK.look hj
  have key : ∀ (xs : List Value) (k j : Nat) (v : Value), Look ((xs.zipIdx k).map fun p => (p.2, p.1)) j = some v → k ≤ j ∧ xs[j - k]? = some v := by
    intro xs
    induction xs with
    | nil => intro k j v h; simp [Look] at h
    | cons x xs ih =>
      intro k j v h
      rw [List.zipIdx_cons, List.map_cons] at h
      unfold Look at h
      cases he : Nat.beq k j with
      | true =>
        have := Nat.eq_of_beq_eq_true he
        subst this
        rw [he, cond_true] at h
        exact ⟨Nat.le_refl _, by simpa using h⟩
      | false =>
        rw [he, cond_false] at h
        obtain ⟨h1, h2⟩ := ih (k + 1) j v h
        refine ⟨by omega, ?_⟩
        rw [show j - k = (j - (k + 1)) + 1 by omega]; exact h2
  have := (key args.toList 0 j v hj').2
  simpa using this
/-! a region that draws its order; S holds all the while -/
variable {S : World → Prop} {listed : Array Bool} {fuel : Nat}
structure Hd (P : Program) (ops : Array Oper) (Q : Exit → Act → World → Prop) (S : World → Prop) (n : Nat) (L : Kn) (fuel : Nat) (listed : Array Bool) (W : World) : Prop where
  out : S W → Fr n L (AH P ops Q S fuel listed) W
structure Ho (P : Program) (ops : Array Oper) (Q : Exit → Act → World → Prop) (S : World → Prop) (n : Nat) (L : Kn) (fuel : Nat) (listed : Array Bool) (i : Nat) (W : World) : Prop where
  out : S W → Fr n L (AO P ops Q S fuel listed i) W
def tkB (ops : Array Oper) (listed : Array Bool) (i : Nat) : Bool := Region.noSelect ops && (Region.free .any ops listed i && (Region.ready .any ops listed).contains i)
theorem fw_hr {id : Nat} (S : World → Prop) (hm : P.follows .mixedOrders = true) (k : Nat) (hk : ops.size = k) (h : ∀ W', Below W.heap.size W W' → S W' ∧ Hd P ops Q S n L k (Array.replicate k false) W') : Fr n L ((Code.region id ops true).wp P Q) W := by
  obtain ⟨h1, h2⟩ := h W.drew (Below.refl _ W).drew
  exact ⟨fun a ha => ah_region S hm k hk ((h2.out h1).out a ha)⟩
theorem fw_tk {T : List TE} [hTk : TOk P T] (i : Nat) {oi : Oper} (hi : ops[i]? = some oi) (hs : stepP T ops n L oi = some L') (hb : tkB ops listed i = true) (hQ : ∀ c a d v w, Q (.panic c) (Act.put a (some d) v) w → Q (.panic c) a w) (k : Hd P ops Q S n L' fuel (listed.setIfInBounds i true) W) : Hd P ops Q S n L (fuel + 1) listed W := by
  unfold tkB at hb
  rw [Bool.and_eq_true, Bool.and_eq_true] at hb
  obtain ⟨d, v, hd, hbl, rfl, ⟨hw, hr⟩ | ⟨hw, rfl⟩⟩ := stepP_sound hTk.ok hs
  · exact ⟨fun hS => ⟨fun a ha => ah_takeW i d v hi (wantL_sound ha hw) hd hb.1 hb.2.1 hb.2.2 (fun c a w => hQ c a d v w) hS (fun W _ => hr a ha W) ((k.out hS).out _ (ha.put hbl))⟩⟩
  · exact ⟨fun hS => ⟨fun a ha => ah_takeNo i d hi (wantL_sound ha hw) hd hb.1 hb.2.1 hb.2.2 (fun c a w => hQ c a d undef w) hS ((k.out hS).out _ (ha.put hbl))⟩⟩
theorem fw_tl {T : List TE} [hTk : TOk P T] (i : Nat) {oi : Oper} {z : Option Nat} (r : ∀ W, S W → RowAt W q vs) (hi : ops[i]? = some oi) (hl : loadC T ops n L oi = some (d, q, j, z)) (hv : ldv z vs j = some v) (hb : tkB ops listed i = true) (hQ : ∀ c a d v w, Q (.panic c) (Act.put a (some d) v) w → Q (.panic c) a w) (k : Hd P ops Q S n ((d, v) :: L) fuel (listed.setIfInBounds i true) W) : Hd P ops Q S n L (fuel + 1) listed W := by
  unfold tkB at hb
  rw [Bool.and_eq_true, Bool.and_eq_true] at hb
  refine ⟨fun hS => ⟨fun a ha => ?_⟩⟩
  obtain ⟨-, h2, h3, h4⟩ := loadC_run hTk.ok ha hl (r W hS) hv
  exact ah_takeW i d v hi (wantL_sound ha h4) h2 hb.1 hb.2.1 hb.2.2 (fun c a w => hQ c a d v w) hS (fun W hW => (loadC_run hTk.ok ha hl (r W hW) hv).1) ((k.out hS).out _ (ha.put h3))
theorem fw_tx (i d : Nat) (v : Value) {oi : Oper} (hi : ops[i]? = some oi) (hw : wantL ops L oi = some true) (hd : oi.dst = some d) (hbl : Nat.blt d n = true) (hr : ∀ a, Has n a L → ∀ W, S W → (execOp a.eval oi).run P W = .ok (.value v) W) (hb : tkB ops listed i = true) (hQ : ∀ c a d v w, Q (.panic c) (Act.put a (some d) v) w → Q (.panic c) a w) (k : Hd P ops Q S n ((d, v) :: L) fuel (listed.setIfInBounds i true) W) : Hd P ops Q S n L (fuel + 1) listed W := by
  unfold tkB at hb
  rw [Bool.and_eq_true, Bool.and_eq_true] at hb
  exact ⟨fun hS => ⟨fun a ha => ah_takeW i d v hi (wantL_sound ha hw) hd hb.1 hb.2.1 hb.2.2 (fun c a w => hQ c a d v w) hS (fun W hW => hr a ha W hW) ((k.out hS).out _ (ha.put hbl))⟩⟩
theorem fw_o1 (i : Nat) (hr : Region.ready .any ops listed = [i]) (k : Ho P ops Q S n L fuel listed i W) : Hd P ops Q S n L (fuel + 1) listed W := ⟨fun hS => ⟨fun a ha => ah_one i hr ((k.out hS).out a ha)⟩⟩
theorem fw_o2 (i j : Nat) (hr : Region.ready .any ops listed = [i, j]) (k : Ho P ops Q S n L fuel listed i W) (k2 : Ho P ops Q S n L fuel listed j W) : Hd P ops Q S n L (fuel + 1) listed W := ⟨fun hS => ⟨fun a ha => ah_two i j hr ((k.out hS).out a ha) ((k2.out hS).out a ha)⟩⟩
theorem fw_o3 (i j l : Nat) (hr : Region.ready .any ops listed = [i, j, l]) (k : Ho P ops Q S n L fuel listed i W) (k2 : Ho P ops Q S n L fuel listed j W) (k3 : Ho P ops Q S n L fuel listed l W) : Hd P ops Q S n L (fuel + 1) listed W := ⟨fun hS => ⟨fun a ha => ah_three i j l hr ((k.out hS).out a ha) ((k2.out hS).out a ha) ((k3.out hS).out a ha)⟩⟩
theorem fw_hz (hr : Region.ready .any ops listed = []) (h : Fr n L (Q .normal) W) : Hd P ops Q S n L fuel listed W := ⟨fun _ => ⟨fun a ha => ah_done hr (h.out a ha)⟩⟩
theorem fw_ht (hr : Region.ready .any ops listed = []) (h : Fr n L M W) : Hd P ops (Exit.then M Q) S n L fuel listed W := fw_hz hr ⟨fun a ha => h.out a ha⟩
section
variable {i : Nat} {oi : Oper} (hi : ops[i]? = some oi)
include hi
theorem fw_op {T : List TE} [hTk : TOk P T] (hs : stepP T ops n L oi = some L') (k : Hd P ops Q S n L' fuel (listed.setIfInBounds i true) W) : Ho P ops Q S n L fuel listed i W := by
  obtain ⟨d, v, hd, hbl, rfl, ⟨hw, hr⟩ | ⟨hw, rfl⟩⟩ := stepP_sound hTk.ok hs
  · exact ⟨fun hS => ⟨fun a ha => ao_run hi (wantL_sound ha hw) d v W hd (hr a ha W) hS ((k.out hS).out _ (ha.put hbl))⟩⟩
  · exact ⟨fun hS => ⟨fun a ha => ao_no hi (wantL_sound ha hw) d hd hS ((k.out hS).out _ (ha.put hbl))⟩⟩
theorem fw_ol {T : List TE} [hTk : TOk P T] {z : Option Nat} (r : RowAt W q vs) (hl : loadC T ops n L oi = some (d, q, j, z)) (hv : ldv z vs j = some v) (k : Hd P ops Q S n ((d, v) :: L) fuel (listed.setIfInBounds i true) W) : Ho P ops Q S n L fuel listed i W := by
  refine ⟨fun hS => ⟨fun a ha => ?_⟩⟩
  obtain ⟨h1, h2, h3, h4⟩ := loadC_run hTk.ok ha hl r hv
  exact ao_run hi (wantL_sound ha h4) d v W h2 h1 hS ((k.out hS).out _ (ha.put h3))
theorem fw_ox (d : Nat) (v : Value) (hw : wantL ops L oi = some true) (hd : oi.dst = some d) (hbl : Nat.blt d n = true) (hr : ∀ a, Has n a L → (execOp a.eval oi).run P W = .ok (.value v) W) (k : Hd P ops Q S n ((d, v) :: L) fuel (listed.setIfInBounds i true) W) : Ho P ops Q S n L fuel listed i W :=
  ⟨fun hS => ⟨fun a ha => ao_run hi (wantL_sound ha hw) d v W hd (hr a ha) hS ((k.out hS).out _ (ha.put hbl))⟩⟩
theorem fw_os {T : List TE} [hTk : TOk P T] (r : RowAt W q vs) (hs : storeC T ops L oi = some (q, j, cs)) (hb : stB vs j cs = true) (k : ∀ W', W.grownBy W' (some q) → RowAt W' q (setR vs j cs) → S W' ∧ Hd P ops Q S n L fuel (listed.setIfInBounds i true) W') : Ho P ops Q S n L fuel listed i W := by
  refine ⟨fun _ => ⟨fun a ha => ?_⟩⟩
  obtain ⟨h1, h2, h3⟩ := storeC_run hTk.ok ha hs r hb
  have hle : j + cs.length ≤ vs.length := by unfold stB at hb; rw [Bool.and_eq_true] at hb; exact Nat.le_of_ble_eq_true hb.1
  obtain ⟨k1, k2⟩ := k _ (gr_sets q cs j W) (by rw [setR_eq]; exact row_sets cs vs j W r hle)
  exact ao_skip hi (wantL_sound ha h3) h2 _ h1 k1 ((k2.out k1).out _ ha)
theorem fw_oa {t : TypeId} {u : Nat → Value} (d : Nat) (cs : List Value) (hw : wantL ops L oi = some true) (hd : oi.dst = some d) (hbl : Nat.blt d n = true) (hr : ∀ a, Has n a L → (execOp a.eval oi).run P W = .ok (.value (u W.heap.size)) (W.alloc (.cells cs.toArray t))) (k : ∀ q W', W.heap.size ≤ q → Below W.heap.size W W' → RowAt W' q cs → S W' ∧ Hd P ops Q S n ((d, u q) :: L) fuel (listed.setIfInBounds i true) W') : Ho P ops Q S n L fuel listed i W := by
  refine ⟨fun _ => ⟨fun a ha => ?_⟩⟩
  obtain ⟨k1, k2⟩ := k _ _ (Nat.le_refl _) ((Below.refl _ W).alloc (Nat.le_refl _) _) (rowAt_alloc W cs t)
  exact ao_run hi (wantL_sound ha hw) d _ _ hd (hr a ha) k1 ((k2.out k1).out _ (ha.put hbl))
theorem fw_ob {t : TypeId} (hr : boxC ops n L oi = some (d, t, v)) (hv : v.cells.toList = cs) (k : ∀ q W', W.heap.size ≤ q → Below W.heap.size W W' → RowAt W' q cs → S W' ∧ Hd P ops Q S n ((d, .pointer (some ⟨q, 0, none⟩)) :: L) fuel (listed.setIfInBounds i true) W') : Ho P ops Q S n L fuel listed i W := by
  refine ⟨fun _ => ⟨fun a ha => ?_⟩⟩
  obtain ⟨h1, h2, h3, h4⟩ := boxC_run (P := P) (W := W) ha hr
  subst hv
  obtain ⟨k1, k2⟩ := k _ _ (Nat.le_refl _) ((Below.refl _ W).alloc (Nat.le_refl _) _) (by have := rowAt_alloc W v.cells.toList t; rwa [Array.toArray_toList] at this)
  exact ao_run hi (wantL_sound ha h4) d _ _ h2 h1 k1 ((k2.out k1).out _ (ha.put h3))
theorem fw_oc {f : FuncId} {fn : Func} {xs : List Value} {R : Ending → World → Prop} (hf : P.funcs[f]? = some fn) (hn : (fn.name == "runtime.NumGoroutine") = false) (hb : fn.body.isNone = false) (hr : callC ops n L oi = some (d, f, xs)) (hc : Calls P f xs.toArray W R) (k : ∀ e w', R e w' → ∃ v, e = .returned v ∧ S w' ∧ Hd P ops Q S n ((d, v) :: L) fuel (listed.setIfInBounds i true) w') : Ho P ops Q S n L fuel listed i W := by
  refine ⟨fun _ => ⟨fun a ha => ?_⟩⟩
  obtain ⟨h1, h2, h3, h4⟩ := callC_run (W := W) ha hr hf hn hb
  exact ao_call hi (wantL_sound ha h4) d (fun v w' => S w' ∧ Hd P ops Q S n ((d, v) :: L) fuel (listed.setIfInBounds i true) w') h2 f _ h1 (hc.mono fun e w' he => k e w' he) (fun v w' hv => ⟨hv.1, (hv.2.out hv.1).out _ (ha.put h3)⟩)
theorem fw_ot {V : Value → World → Prop} (d : Nat) (hw : wantL ops L oi = some true) (hd : oi.dst = some d) (hbl : Nat.blt d n = true) (hop : ∀ a, Has n a L → opTo P oi a W V) (k : ∀ v w', V v w' → S w' ∧ Hd P ops Q S n ((d, v) :: L) fuel (listed.setIfInBounds i true) w') : Ho P ops Q S n L fuel listed i W :=
  ⟨fun _ => ⟨fun a ha => ao_to hi (wantL_sound ha hw) d V hd (hop a ha) (fun v w' hv => ⟨(k v w' hv).1, ((k v w' hv).2.out (k v w' hv).1).out _ (ha.put hbl)⟩)⟩⟩
end
theorem fw_kh (j : Nat) {t b : Bool} (hk : Look L j = some (.bool t)) (hb : t = b) (h : Hd P ops Q S n ((j, .bool b) :: L) fuel listed W) : Hd P ops Q S n L fuel listed W := ⟨fun hS => fw_kn j hk hb (h.out hS)⟩
theorem fw_ko (j : Nat) {t b : Bool} {i : Nat} (hk : Look L j = some (.bool t)) (hb : t = b) (h : Ho P ops Q S n ((j, .bool b) :: L) fuel listed i W) : Ho P ops Q S n L fuel listed i W := ⟨fun hS => fw_kn j hk hb (h.out hS)⟩
theorem fw_in {X : Act → World → Prop} {a : Act} (h : Has n a L) (k : Fr n L X W) : X a W := k.out a h
/-- A call by what is known of its value. -/
theorem fw_cv {f : FuncId} {fn : Func} {xs : List Value} (V : Value → World → Prop) (hf : P.funcs[f]? = some fn) (hn : (fn.name == "runtime.NumGoroutine") = false) (hb : fn.body.isNone = false) (hr : callC ops n L o = some (d, f, xs)) (hc : Calls P f xs.toArray W fun e w' => ∃ v, e = .returned v ∧ V v w') (k : ∀ v w', V v w' → Fr n ((d, v) :: L) (WL P ops Q l) w') : Fr n L (WL P ops Q (o :: l)) W :=
  fw_ca hf hn hb hr hc fun _ _ ⟨v, he, hv⟩ => ⟨v, he, k v _ hv⟩
theorem fw_ov {f : FuncId} {fn : Func} {xs : List Value} {i : Nat} {oi : Oper} (V : Value → World → Prop) (hi : ops[i]? = some oi) (hf : P.funcs[f]? = some fn) (hn : (fn.name == "runtime.NumGoroutine") = false) (hb : fn.body.isNone = false) (hr : callC ops n L oi = some (d, f, xs)) (hc : Calls P f xs.toArray W fun e w' => ∃ v, e = .returned v ∧ V v w') (k : ∀ v w', V v w' → S w' ∧ Hd P ops Q S n ((d, v) :: L) fuel (listed.setIfInBounds i true) w') : Ho P ops Q S n L fuel listed i W :=
  fw_oc hi hf hn hb hr hc fun _ _ ⟨v, he, hv⟩ => ⟨v, he, k v _ hv⟩
/-- A row but for one cell. -/
def RowBut (W : World) (q : Nat) (vs : List Value) (k : Nat) : Prop := ∃ z, RowAt W q (vs.set k z)
theorem RowBut.of {k : Nat} (r : RowAt W q vs) (hk : Nat.blt k vs.length = true) : RowBut W q vs k := by
  have hk' : k < vs.length := by simpa [Nat.blt_eq] using hk
  exact ⟨vs[k], by rwa [List.set_getElem_self]⟩
theorem RowBut.row {k : Nat} (h : RowBut W q vs k) : ∃ z, RowAt W q (vs.set k z) := h
theorem RowBut.below {k : Nat} {W' : World} (h : RowBut W q vs k) (hb : Below W.heap.size W W') : RowBut W' q vs k := by obtain ⟨z, r⟩ := h; exact ⟨z, r.below hb⟩
theorem RowBut.low {k g : Nat} {W' : World} (h : RowBut W q vs k) (hb : Below g W W') (hq : q < g) : RowBut W' q vs k := by obtain ⟨z, r⟩ := h; exact ⟨z, r.low hb hq⟩
theorem RowBut.set {k : Nat} {vs' : List Value} (r : RowAt W q vs') (e : vs' = vs.set k v) : RowBut W q vs k := ⟨v, e ▸ r⟩
theorem ldv_set {k : Nat} {z : Value} {m : Option Nat} (hk : (Nat.blt k j || Nat.ble (j + m.getD 1) k) = true) : ldv m (vs.set k z) j = ldv m vs j := by
  rw [Bool.or_eq_true] at hk
  have hk' : k < j ∨ j + m.getD 1 ≤ k := hk.imp (fun h => by simpa [Nat.blt_eq] using h) Nat.le_of_ble_eq_true
  cases m with
  | none =>
    simp only [Option.getD_none] at hk'
    unfold ldv
    exact List.getElem?_set_ne (by omega)
  | some m =>
    simp only [Option.getD_some] at hk'
    unfold ldv
    dsimp only
    rw [List.length_set]
    cases Nat.ble (j + m) vs.length with
    | false => rfl
    | true =>
      rw [cond_true, cond_true]
      have : ((vs.set k z).drop j).take m = (vs.drop j).take m := by
        apply List.ext_getElem?
        intro i
        simp only [List.getElem?_take, List.getElem?_drop]
        split
        · exact List.getElem?_set_ne (by omega)
        · rfl
      rw [this]
theorem fw_lb {T : List TE} [hTk : TOk P T] (i : Nat) {oi : Oper} {z : Option Nat} {k : Nat} (r : ∀ W, S W → RowBut W q vs k) (hi : ops[i]? = some oi) (hl : loadC T ops n L oi = some (d, q, j, z)) (hk : (Nat.blt k j || Nat.ble (j + z.getD 1) k) = true) (hv : ldv z vs j = some v) (hb : tkB ops listed i = true) (hQ : ∀ c a d v w, Q (.panic c) (Act.put a (some d) v) w → Q (.panic c) a w) (kk : Hd P ops Q S n ((d, v) :: L) fuel (listed.setIfInBounds i true) W) : Hd P ops Q S n L (fuel + 1) listed W := by
  unfold tkB at hb
  rw [Bool.and_eq_true, Bool.and_eq_true] at hb
  refine ⟨fun hS => ⟨fun a ha => ?_⟩⟩
  have hrun : ∀ W, S W → (execOp a.eval oi).run P W = .ok (.value v) W ∧ oi.dst = some d ∧ Nat.blt d n = true ∧ wantL ops L oi = some true := fun W hW => by
    obtain ⟨u, ru⟩ := r W hW
    exact loadC_run hTk.ok ha hl ru (by rw [ldv_set hk]; exact hv)
  obtain ⟨-, h2, h3, h4⟩ := hrun W hS
  exact ah_takeW i d v hi (wantL_sound ha h4) h2 hb.1 hb.2.1 hb.2.2 (fun c a w => hQ c a d v w) hS (fun W hW => (hrun W hW).1) ((kk.out hS).out _ (ha.put h3))
end
end Go.Proofs.YtpgnlhfokffioaaDoor
