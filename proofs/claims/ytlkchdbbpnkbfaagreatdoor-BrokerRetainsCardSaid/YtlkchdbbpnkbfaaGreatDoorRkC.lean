/-
  Words of our own, of no program: the reckoner, third part: regions, code, calls.
-/
import Derived.Test.YtlkchdbbpnkbfaaGreatDoorRkB
namespace Go.Rk
noncomputable section
inductive Ex where | nx | ret | ex (n : Nat) | go (l : Nat)
abbrev K3 := Ex → Fm → Heap → Bool
abbrev KF := Fm → Heap → Bool
/-- An item of a region, compiled. -/
inductive RI where | mk (f : CallF → Fm → Heap → KF → Bool)
def wantK (v : AV) (want : Bool) (run skip : Bool) : Bool :=
  AV.rec (motive_1 := fun _ => Bool → Bool → Bool → Bool) (motive_2 := fun _ => Unit) (fun _ _ _ => false) (fun x want run skip => iff_ (eqvB x want) run skip) (fun _ _ _ _ _ => false) (fun _ _ _ _ _ _ => false) (fun _ _ _ _ _ => false) (fun _ _ _ _ => false) (fun _ _ _ => false) (fun _ _ _ _ _ => false) (fun _ _ _ => false)
    (fun _ _ _ _ _ _ _ _ => false) (fun _ _ _ _ _ => false) (fun _ _ _ _ skip => skip) (fun _ _ _ _ _ _ => false) (fun _ _ _ => false) (fun _ _ _ _ _ => false) (fun _ _ _ _ _ => false) () (fun _ _ _ _ => ()) v want run skip
-- equal?
def eqId (r q : Id) : Bool := Nat.beq r.num q.num
def eqO (c d : Option Nat) : Bool := match c, d with | none, none => true | some c, some d => Nat.beq c d | _, _ => false
def fkc : FloatKind → Nat | .f32 => 0 | .f64 => 1
def eqS (x y : AV) : Bool :=
  match x, y with
  | .un, .un => true
  | .b x, .b y => eqvB x y
  | .i q m, .i q' n => Bool.and (Nat.beq (kc q) (kc q')) (m == n)
  | .s l, .s r => eqN l r
  | .cx q r j, .cx q' r' j' => Bool.and (Nat.beq (fkc q) (fkc q')) (Bool.and (Nat.beq r r') (Nat.beq j j'))
  | .nilp, .nilp => true
  | .p r o, .p q u => Bool.and (eqId r q) (Nat.beq o u)
  | .nils, .nils => true
  | .sl r o n c z, .sl r' o' n' c' z' => Bool.and (eqId r r') (Bool.and (Nat.beq o o') (Bool.and (Nat.beq n n') (Bool.and (eqO c c') (Nat.beq z z'))))
  | .nilf, .nilf => true
  | .nat j l, .nat j' l' => Bool.and (Nat.beq j j') (Nat.beq l l')
  | .osl j l, .osl j' l' => Bool.and (Nat.beq j j') (Nat.beq l l')
  | _, _ => false
def eqL : List AV → List AV → Bool
  | [], [] => true
  | x :: l, y :: r => Bool.and (eqS x y) (eqL l r)
  | _, _ => false
def eqA (x y : AV) : Bool := match x, y with | .ag l, .ag r => eqL l r | x, y => eqS x y
def isTu (v : AV) : Bool := match v with | .tu _ => true | _ => false
/-- What was read is read again. -/
def rck (l : List (I3 × (Fm → Heap → K1 → Bool))) (fr : Fm) (σ : Heap) (t : Bool) : Bool :=
  List.rec (motive := fun _ => Fm → Heap → Bool → Bool) (fun _ _ t => t) (fun p _ ih fr σ t => iff_ (isTu (get3 p.1 fr)) (ih fr σ t) (p.2 fr σ fun v => guard_ (eqA v (get3 p.1 fr)) (ih fr σ t))) l fr σ t
def dstK (d : Option I3) (fr : Fm) (v : AV) (k : Fm → Bool) : Bool := match d with | none => k fr | some i => put3 i fr v k
def cIt (d : Option I3) (g : Option (I3 × Bool)) (c : CO) (r : List (I3 × (Fm → Heap → K1 → Bool))) : RI :=
  match c, g with
  | .no, _ => .mk fun _ _ _ _ => false
  | .ld f, none => .mk fun _ fr σ k => f fr σ fun v => dstK d fr v fun fr => k fr σ
  | .ld f, some (i, w) => .mk fun _ fr σ k => wantK (get3 i fr) w (f fr σ fun v => dstK d fr v fun fr => k fr σ) (dstK d fr (.tu []) fun fr => k fr σ)
  | .al f, none => .mk fun _ fr σ k => f fr σ fun v σ => dstK d fr v fun fr => rck r fr σ (k fr σ)
  | .al f, some (i, w) => .mk fun _ fr σ k => wantK (get3 i fr) w (f fr σ fun v σ => dstK d fr v fun fr => rck r fr σ (k fr σ)) (dstK d fr (.tu []) fun fr => k fr σ)
  | .hv f, none => .mk fun call fr σ k => f call fr σ fun v σ => dstK d fr v fun fr => rck r fr σ (k fr σ)
  | .hv f, some (i, w) => .mk fun call fr σ k => wantK (get3 i fr) w (f call fr σ fun v σ => dstK d fr v fun fr => rck r fr σ (k fr σ)) (dstK d fr (.tu []) fun fr => k fr σ)
def runIts (l : List RI) (call : CallF) (fr : Fm) (σ : Heap) (k : KF) : Bool :=
  List.rec (motive := fun _ => CallF → Fm → Heap → KF → Bool) (fun _ fr σ k => k fr σ) (fun x _ ih call fr σ k => RI.rec (motive := fun _ => Bool) (fun f => f call fr σ fun fr σ => ih call fr σ k) x) l call fr σ k
-- the order of a region
def binds (e : Edge) : Bool := match e.ground with | .textOnly _ => false | .gcOnly _ => false | _ => true
def preds (o : Oper) : List Nat := (o.after.toList.filter binds).map (·.on)
def memN (l : List Nat) (n : Nat) : Bool := l.any (Nat.beq n)
/-- All that are ahead of each, by its edges: as lists, one for each operation so far. -/
def ancs (ops : List Oper) : List (List Nat) :=
  ops.foldl (fun acc o => acc ++ [(preds o).foldl (fun l e => if memN l e then l else e :: ((acc.getD e []).filter (fun x => !memN l x) ++ l)) []]) []
def isRd (o : Oper) : Bool := match o.op with | .load .. => true | .slice .. => true | .convert .. => true | _ => false
def isHv (c : CO) : Bool := match c with | .hv _ => true | _ => false
def gslot (ops : List Oper) (o : Oper) : Option (Option (I3 × Bool)) :=
  match o.guard with
  | none => some none
  | some (j, w) => match ops[j]? with
    | some oj => match oj.dst with
      | some t => some (some (ix t, w))
      | none => none
    | none => none
def dOk (N : Nat) (o : Oper) : Bool := match o.dst with | none => true | some t => Nat.ble (Nat.succ t) N
def opOk (N : Nat) (o : Oper) : Bool := o.op.operands.toList.all oOk && dOk N o
/-- Which of those that are left comes next: a light one if there is one. -/
def nextOp (hv : Nat → Bool) (pr : Nat → List Nat) (done left : List Nat) : Option Nat :=
  match left.find? (fun i => !hv i && (pr i).all (memN done)) with
  | some i => some i
  | none => left.find? (fun i => (pr i).all (memN done))
def sched (hv : Nat → Bool) (pr : Nat → List Nat) : Nat → List Nat → List Nat → List Nat
  | 0, _, _ => []
  | n + 1, done, left => match nextOp hv pr done left with
    | some i => i :: sched hv pr n (i :: done) (left.filter fun j => !Nat.beq i j)
    | none => []
/-- The temporaries that an operation looks at, its guard's among them. -/
def seesOp (ops : List Oper) (o : Oper) : List Nat :=
  (o.op.operands.toList.filterMap fun | .tmp t => some t | _ => none) ++ (match o.guard with | some (j, _) => ((ops[j]?).bind (·.dst)).toList | none => [])
/-- Along an order: whoever is seen is ahead; whoever changes memory, or comes behind such a one, is behind the last such one. -/
def chk (ops : List Oper) (hv : Nat → Bool) (A : List (List Nat)) : List Nat → List Nat → Option Nat → Bool
  | [], done, _ => (List.range ops.length).all (memN done)
  | i :: rest, done, h => match ops[i]? with
    | none => false
    | some o => !memN done i && ((preds o).all (memN done) && ((match h with | none => true | some j => memN (A.getD i []) j) &&
        ((seesOp ops o).all (fun t => ops.zipIdx.all fun p => (match p.1.dst with | some d => !Nat.beq d t | none => true) || (memN (A.getD i []) p.2 || (!isRd o && (Nat.beq p.2 i || memN (A.getD p.2 []) i)))) &&
          (match o.dst with | none => true | some d => ops.zipIdx.all (fun p => Nat.beq p.2 i || (match p.1.dst with | some e => !Nat.beq d e | none => true))) &&
          chk ops hv A rest (i :: done) (if hv i then some i else h))))
def rdOf (oj : Oper) (c : CO) : Option (I3 × (Fm → Heap → K1 → Bool)) :=
  match c, oj.dst, isRd oj with
  | .ld f, some d, true => some (ix d, f)
  | _, _, _ => none
/-- Those that have read, and need not be ahead. -/
def rcks (ops : List Oper) (cs : List CO) (A : List (List Nat)) (done : List Nat) (i : Nat) : List (I3 × (Fm → Heap → K1 → Bool)) :=
  (done.filter fun j => !memN (A.getD i []) j).filterMap fun j => match ops[j]?, cs[j]? with
    | some oj, some c => rdOf oj c
    | _, _ => none
def cItems (ops : List Oper) (cs : List CO) (rs : List Nat → Nat → List (I3 × (Fm → Heap → K1 → Bool))) : List Nat → List Nat → Option (List RI)
  | [], _ => some []
  | i :: rest, done => match ops[i]?, cs[i]? with
    | some o, some c => match gslot ops o, cItems ops cs rs rest (i :: done) with
      | some g, some l => some (cIt (o.dst.map ix) g c (rs done i) :: l)
      | _, _ => none
    | _, _ => none
/-- What reads memory yields no tuple. -/
def noTu (o : Oper) (c : CO) : CO :=
  match c, isRd o with
  | .ld f, true => .ld fun fr σ k => f fr σ fun v => iff_ (isTu v) false (k v)
  | c, _ => c
/-- Those of a drawn region that read memory have a slot for what they read. -/
def rdOk (ops : List Oper) : Bool := ops.all fun o => !isRd o || o.dst.isSome
def cRegion (P : Program) (N : Nat) (opsA : Array Oper) (draw : Bool) : Option (List RI) :=
  let ops := opsA.toList
  let cs := ops.map fun o => noTu o (comp P o)
  match ops.all (opOk N) with
  | false => none
  | true => match draw with
    | false => cItems ops cs (fun _ _ => []) (List.range ops.length) []
    | true =>
      let A := ancs ops
      let hv := fun i => match cs[i]? with | some c => isHv c | none => false
      let ord := sched hv (fun i => match ops[i]? with | some o => preds o | none => []) ops.length [] (List.range ops.length)
      match chk ops hv A ord [] none && rdOk ops with
      | true => cItems ops cs (rcks ops cs A) ord []
      | false => none
def seqK (e : Ex) (fr : Fm) (σ : Heap) (n : KF) (k : K3) : Bool :=
  Ex.rec (motive := fun _ => Fm → Heap → KF → K3 → Bool) (fun fr σ n _ => n fr σ) (fun fr σ _ k => k .ret fr σ) (fun i fr σ _ k => k (.ex i) fr σ) (fun l fr σ _ k => k (.go l) fr σ) e fr σ n k
def blkK (id : Nat) (e : Ex) (fr : Fm) (σ : Heap) (k : K3) : Bool :=
  Ex.rec (motive := fun _ => Nat → Fm → Heap → K3 → Bool) (fun _ fr σ k => k .nx fr σ) (fun _ fr σ k => k .ret fr σ) (fun i id fr σ k => iff_ (Nat.beq i id) (k .nx fr σ) (k (.ex i) fr σ)) (fun l _ fr σ k => k (.go l) fr σ) e id fr σ k
def goK (e : Ex) (fr : Fm) (σ : Heap) (j : Nat → Fm → Heap → K3 → Bool) (k : K3) : Bool :=
  Ex.rec (motive := fun _ => Fm → Heap → (Nat → Fm → Heap → K3 → Bool) → K3 → Bool) (fun fr σ _ k => k .nx fr σ) (fun fr σ _ k => k .ret fr σ) (fun i fr σ _ k => k (.ex i) fr σ) (fun l fr σ j k => j l fr σ k) e fr σ j k
/-- Code, compiled. -/
inductive CC where | mk (f : CallF → Nat → Fm → Heap → K3 → Bool)
def CC.run (c : CC) (call : CallF) (n : Nat) (fr : Fm) (σ : Heap) (k : K3) : Bool := CC.rec (motive := fun _ => CallF → Nat → Fm → Heap → K3 → Bool) (fun f => f) c call n fr σ k
def loopK (c : CC) (call : CallF) (n : Nat) (fr : Fm) (σ : Heap) (k : K3) : Bool :=
  Nat.rec (motive := fun _ => Fm → Heap → K3 → Bool) (fun _ _ _ => false) (fun _ ih fr σ k => c.run call n fr σ fun e fr σ => seqK e fr σ (fun fr σ => ih fr σ k) k) n fr σ k
def jumpK (lab : Nat → Option CC) (call : CallF) (n : Nat) (l : Nat) (fr : Fm) (σ : Heap) (k : K3) : Bool :=
  Nat.rec (motive := fun _ => Nat → Fm → Heap → K3 → Bool) (fun _ _ _ _ => false) (fun _ ih l fr σ k => match lab l with
    | some c => c.run call n fr σ fun e fr σ => goK e fr σ ih k
    | none => k (.go l) fr σ) n l fr σ k
def noC : CC := .mk fun _ _ _ _ _ => false
def cCode (P : Program) (N : Nat) : Nat → Code → CC
  | 0, _ => noC
  | n + 1, c => match c with
    | .skip => .mk fun _ _ fr σ k => k .nx fr σ
    | .region _ ops d => match cRegion P N ops d with
      | some l => .mk fun call _ fr σ k => runIts l call fr σ fun fr σ => k .nx fr σ
      | none => noC
    | .seq a b => .mk fun call m fr σ k => (cCode P N n a).run call m fr σ fun e fr σ => seqK e fr σ (fun fr σ => (cCode P N n b).run call m fr σ k) k
    | .cond x a b => match oOk x with
      | true => .mk fun call m fr σ k => asB (oval x fr) fun t => iff_ t ((cCode P N n a).run call m fr σ k) ((cCode P N n b).run call m fr σ k)
      | false => noC
    | .block id a => .mk fun call m fr σ k => (cCode P N n a).run call m fr σ fun e fr σ => blkK id e fr σ k
    | .loop a => .mk fun call m fr σ k => loopK (cCode P N n a) call m fr σ k
    | .exit id => .mk fun _ _ fr σ k => k (.ex id) fr σ
    | .scope a => .mk fun call m fr σ k => (cCode P N n a).run call m fr σ fun e fr σ => goK e fr σ (jumpK (fun l => (findLabel a l).map (cCode P N n)) call m) k
    | .label _ => .mk fun _ _ fr σ k => k .nx fr σ
    | .goto l => .mk fun _ _ fr σ k => k (.go l) fr σ
    | .ret => .mk fun _ _ fr σ k => k .ret fr σ
    | _ => noC
-- calls
def initK (vs : List AV) (i : Nat) (fr : Fm) (k : Fm → Bool) : Bool :=
  List.rec (motive := fun _ => Nat → Fm → Bool) (fun _ fr => k fr) (fun v _ ih i fr => put3 (ix i) fr v fun fr => ih (Nat.succ i) fr) vs i fr
inductive RC where | t (i : I3) | c (i : I3) (f : Fm → Heap → K1 → Bool)
def cRes (P : Program) : List ResultVar → Option (List RC)
  | [] => some []
  | .tmp t :: l => match Nat.ble (Nat.succ t) 512, cRes P l with
    | true, some r => some (.t (ix t) :: r)
    | _, _ => none
  | .cell t ty :: l => match Nat.ble (Nat.succ t) 512, cLoad P ty (.tmp t), cRes P l with
    | true, some f, some r => some (.c (ix t) f :: r)
    | _, _, _ => none
def resK (l : List RC) (fr : Fm) (σ : Heap) (k : List AV → Bool) : Bool :=
  List.rec (motive := fun _ => Fm → Heap → (List AV → Bool) → Bool) (fun _ _ k => k []) (fun x _ ih fr σ k => RC.rec (motive := fun _ => Bool) (fun i => forceV (get3 i fr) fun v => ih fr σ fun t => k (v :: t)) (fun _ f => f fr σ fun v => ih fr σ fun t => k (v :: t)) x) l fr σ k
def oneK (l : List AV) (σ : Heap) (k : K2) : Bool := List.rec (motive := fun _ => Bool) (k (.tu []) σ) (fun v t _ => List.rec (motive := fun _ => Bool) (k v σ) (fun _ _ _ => k (.tu l) σ) t) l
inductive FC where | no | mk (f : CallF → List AV → Heap → K2 → Bool)
abbrev Over := Nat → Option (List AV → Heap → K2 → Bool)
def fr0 : Fm := T3.all (.tu [])
def cFunc (P : Program) (ov : Over) (dep fuel : Nat) (f : Nat) : FC :=
  match ov f with
  | some g => .mk fun _ vs σ k => g vs σ k
  | none => match P.funcs[f]? with
    | some fn => match fn.body, Nat.ble fn.ntmps 512, cRes P fn.results.toList with
      | some c, true, some r => .mk fun call vs σ k => lenN vs fun n => guard_ (Nat.ble n fn.ntmps) (initK vs 0 fr0 fun fr => (cCode P fn.ntmps dep c).run call fuel fr σ fun e fr σ =>
          Ex.rec (motive := fun _ => Bool) (resK r fr σ fun l => oneK l σ k) (resK r fr σ fun l => oneK l σ k) (fun _ => false) (fun _ => false) e)
      | _, _, _ => .no
    | none => .no
/-- A call, at most so many deep. -/
def callK (P : Program) (ov : Over) (dep fuel : Nat) (n : Nat) : CallF :=
  Nat.rec (motive := fun _ => CallF) (fun _ _ _ _ => false) (fun _ ih f vs σ k => FC.rec (motive := fun _ => Bool) false (fun g => g ih vs σ k) (cFunc P ov dep fuel f)) n
def id0 : Id := ⟨⟨.a, .a, .a⟩, ⟨.a, .a, .a⟩⟩
def heap0 : Heap := ⟨T3.all (T3.all .dead), id0⟩
end
end Go.Rk
