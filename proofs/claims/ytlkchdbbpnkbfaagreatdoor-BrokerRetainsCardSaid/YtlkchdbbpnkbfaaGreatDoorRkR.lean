/-
  Words of our own, of no program: the reckoner: regions whose order is drawn.
-/
import Derived.Test.YtlkchdbbpnkbfaaGreatDoorRkQ
import Derived.Orders
namespace Go.Rk
open Go.RowKit
noncomputable section
variable {P : Program} {ev : Nat → Nat} {B N : Nat} {opsA : Array Oper}
abbrev csOf (P : Program) (opsA : Array Oper) : List CO := opsA.toList.map fun o => noTu o (comp P o)
def hvf (P : Program) (opsA : Array Oper) (i : Nat) : Bool := match (csOf P opsA)[i]? with | some c => isHv c | none => false
abbrev anc (opsA : Array Oper) (i : Nat) : List Nat := (ancs opsA.toList).getD i []
inductive Tr (P : Program) (ev : Nat → Nat) (B : Nat) (opsA : Array Oper) : List Nat → List Nat → Fm → Heap → Fm → Heap → Prop
  | nil {done : List Nat} {fr : Fm} {σ : Heap} : Tr P ev B opsA [] done fr σ fr σ
  | cons {i : Nat} {rest done : List Nat} {fr frE : Fm} {σ σ1 σE : Heap} {o : Oper} {g : Option (I3 × Bool)} {v : AV} (ho : opsA.toList[i]? = some o) (hg : gslot opsA.toList o = some g) (hk : Kind P ev B o (noTu o (comp P o)) g fr σ v σ1)
      (hr : σ1 = σ ∨ RckS P ev B (rcks opsA.toList (csOf P opsA) (ancs opsA.toList) done i) (putD (o.dst.map ix) fr v) σ1) (ht : Tr P ev B opsA rest (i :: done) (putD (o.dst.map ix) fr v) σ1 frE σE) : Tr P ev B opsA (i :: rest) done fr σ frE σE
theorem rcks_mem {A : List (List Nat)} {done : List Nat} {i : Nat} {p : I3 × (Fm → Heap → K1 → Bool)} : p ∈ rcks opsA.toList (csOf P opsA) A done i ↔ ∃ j o d, j ∈ done ∧ j ∉ A.getD i [] ∧ opsA.toList[j]? = some o ∧ o.dst = some d ∧ isRd o = true ∧ noTu o (comp P o) = .ld p.2 ∧ p.1 = ix d := by
  unfold rcks
  rw [List.mem_filterMap]
  constructor
  · rintro ⟨j, hj, h⟩
    obtain ⟨h1, h2⟩ := List.mem_filter.1 hj
    split at h
    · rename_i o c ho hc
      rw [List.getElem?_map, ho] at hc
      simp only [Option.map_some, Option.some.injEq] at hc
      unfold rdOf at h
      split at h
      · rename_i f d hd hrd
        simp only [Option.some.injEq] at h
        subst h
        exact ⟨j, o, d, h1, fun hm => (by rw [memN_iff.2 hm] at h2; cases h2), ho, hd, hrd, hc, rfl⟩
      · cases h
    · cases h
  · rintro ⟨j, o, d, h1, h2, ho, hd, hrd, hc, hp⟩
    refine ⟨j, List.mem_filter.2 ⟨h1, ?_⟩, ?_⟩
    · cases hm : memN (A.getD i []) j with
      | true => exact absurd (memN_iff.1 hm) h2
      | false => rfl
    · have hcs : (csOf P opsA)[j]? = some (noTu o (comp P o)) := by rw [List.getElem?_map, ho]; rfl
      rw [ho, hcs]
      dsimp only
      unfold rdOf
      rw [hc, hd, hrd]
      dsimp only
      rw [← hp]
theorem tr_of {call : CallF} (hcall : CallOk P ev B call) : ∀ {L done : List Nat} {items : List RI}, cItems opsA.toList (csOf P opsA) (rcks opsA.toList (csOf P opsA) (ancs opsA.toList)) L done = some items →
    ∀ {fr : Fm} {σ : Heap} {k : KF}, runIts items call fr σ k = true → ∃ frE σE, k frE σE = true ∧ Tr P ev B opsA L done fr σ frE σE
  | [], done, items, hc, fr, σ, k, h => by
    simp only [cItems, Option.some.injEq] at hc
    subst hc
    exact ⟨fr, σ, h, .nil⟩
  | i :: rest, done, items, hc, fr, σ, k, h => by
    unfold cItems at hc
    split at hc
    · rename_i o c ho hcs
      split at hc
      · rename_i g l hg hl
        simp only [Option.some.injEq] at hc
        subst hc
        have hcc : c = noTu o (comp P o) := by
          rw [List.getElem?_map, ho] at hcs
          simpa using hcs.symm
        obtain ⟨v, σ1, h1, h2, h3⟩ := cIt_inv (ev := ev) (B := B) hcc (fun p hp => by obtain ⟨j, o, d, -, -, -, -, -, h, -⟩ := rcks_mem.1 hp; exact ⟨o, h⟩) hcall (k := fun fr σ => runIts l call fr σ k) h
        obtain ⟨frE, σE, h4, h5⟩ := tr_of hcall hl h2
        rw [hcc] at h1
        exact ⟨frE, σE, h4, .cons ho hg h1 h3 h5⟩
      · cases hc
    · cases hc
theorem HR.pop {σ : Heap} {n2 : Id} {row : Row} {ρ : Ren} {w : World} (hn : n2.num = σ.nx.num + 1) (h : HR ev B (σ.push n2 row) ρ w) (hno : ρ σ.nx = none) : HR ev B σ ρ w := by
  have hne : ∀ {r x}, ρ r = some x → r ≠ σ.nx := fun hr e => by subst e; rw [hno] at hr; cases hr
  refine ⟨fun r x hr => ?_, fun r b o E hr => ?_, fun r r' b o E o' E' hr hr' => ?_⟩
  · have h1 : r.num < n2.num := h.fresh r x hr
    have h2 : r.num ≠ σ.nx.num := fun e => hne hr (Id.num_inj e)
    omega
  · obtain ⟨h1, h2, h3, h4⟩ := h.row r b o E hr
    rw [Heap.get_push, if_neg (hne hr)] at h4
    exact ⟨h1, h2, h3, h4⟩
  · have := h.apart r r' b o E o' E' hr hr'
    rw [Heap.get_push, if_neg (hne hr), Heap.get_push, if_neg (hne hr')] at this
    exact this
theorem LdS.frame {o : Oper} {fr fr' : Fm} {σ : Heap} {v : AV} (h : LdS P ev B o fr σ v) (he : ∀ t ∈ seesOp opsA.toList o, get3 (ix t) fr = get3 (ix t) fr') : LdS P ev B o fr' σ v := fun ρ a w ho hr => h ρ a w (fun x hx => by
    have := ho x hx
    cases x with
    | tmp t =>
      have e := he t (by unfold seesOp; exact List.mem_append.2 (.inl (List.mem_filterMap.2 ⟨.tmp t, by simpa using hx, rfl⟩)))
      show VR ev ρ (get3 (ix t) fr) _
      rw [e]; exact this
    | const v => exact this
    | global g => exact this
    | func f => exact this) hr
structure Ent where
  i : Nat
  o : Oper
  g : Option (I3 × Bool)
  fr : Fm
  v : AV
  r : Option Id
/-- What an operation that is owed will come to. -/
def PK (P : Program) (ev : Nat → Nat) (B : Nat) (opsA : Array Oper) (σ : Heap) (n0 : Nat) (PL : List Ent) (e : Ent) : Prop :=
  (Skips e.g e.fr ∧ e.v = .tu [] ∧ e.r = none) ∨
  (Runs e.g e.fr ∧ e.r = none ∧ ∃ σr, LdS P ev B e.o e.fr σr e.v ∧ (isRd e.o = true → isTu e.v = false ∧ (∃ f, noTu e.o (comp P e.o) = .ld f) ∧
    ∀ ρ w, HR ev B σ ρ w → (∀ e' ∈ PL, ∀ r, e'.r = some r → e.i ∈ anc opsA e'.i → ρ r = none) → HR ev B σr ρ w)) ∨
  (Runs e.g e.fr ∧ ∃ r row, e.r = some r ∧ AlS P ev B e.o e.fr r row e.v ∧ (σ.get r = row ∨ σ.get r = .dead) ∧ r.num < σ.nx.num ∧ n0 ≤ r.num)
structure Inv (P : Program) (ev : Nat → Nat) (B N : Nat) (opsA : Array Oper) (ρ0 : Ren) (σ0 : Heap) (w0 : World) (L done : List Nat) (h : Option Nat) (fr : Fm) (σ : Heap) (PL : List Ent) (listed : Array Bool) (cf : Nat → AV) (ρ : Ren) (a : Act) (w : World) : Prop where
  chk : chk opsA.toList (hvf P opsA) (ancs opsA.toList) L done h = true
  size : listed.size = opsA.size
  bnd : ∀ i ∈ done, i < opsA.size
  lst : ∀ i, listed.getD i false = true ↔ (i ∈ done ∧ ∀ e ∈ PL, e.i ≠ i)
  pin : ∀ e ∈ PL, e.i ∈ done ∧ opsA.toList[e.i]? = some e.o ∧ gslot opsA.toList e.o = some e.g ∧ e.i ∉ preds e.o
  nod : PL.Pairwise fun x y => x.i ≠ y.i
  ord : PL.Pairwise fun x y => x.i ∉ preds y.o
  dcl : ∀ i o, opsA.toList[i]? = some o → i ∈ done → ∀ j ∈ preds o, j ∈ done
  lcl : ∀ i o, opsA.toList[i]? = some o → listed.getD i false = true → ∀ j ∈ preds o, listed.getD j false = true
  fsz : a.tmps.size = N
  dfr : a.defers = []
  cfr : ∀ t, t < 512 → VR ev ρ (cf t) (a.tmps.getD t undef)
  fb : ∀ t, t < 512 → (∀ e ∈ PL, e.o.dst ≠ some t) → cf t = get3 (ix t) fr
  fd : ∀ e ∈ PL, ∀ t, e.o.dst = some t → get3 (ix t) fr = e.v
  fc : ∀ e ∈ PL, ∀ t ∈ seesOp opsA.toList e.o, (∃ e' ∈ PL, e'.o.dst = some t ∧ e'.i ∈ anc opsA e.i ∧ e'.v = get3 (ix t) e.fr) ∨ ((∀ e' ∈ PL, e'.o.dst = some t → e'.i ∉ anc opsA e.i) ∧ cf t = get3 (ix t) e.fr)
  fe : ∀ e ∈ PL, isRd e.o = true → ∀ t ∈ seesOp opsA.toList e.o, get3 (ix t) fr = get3 (ix t) e.fr
  pk : ∀ e ∈ PL, PK P ev B opsA σ σ0.nx.num PL e
  prn : ∀ e ∈ PL, ∀ r, e.r = some r → ρ r = none
  prd : PL.Pairwise fun x y => ∀ r, x.r = some r → y.r ≠ some r
  hr : HR ev B σ ρ w
  hB : B ≤ w.heap.size
  ext : Ext ρ0 σ0 ρ σ
  bel : Below B w0 w
section
variable {ρ0 ρ : Ren} {σ0 σ : Heap} {w0 w : World} {L done : List Nat} {h : Option Nat} {fr : Fm} {PL : List Ent} {listed : Array Bool} {cf : Nat → AV} {a : Act}
theorem Inv.dan (I : Inv P ev B N opsA ρ0 σ0 w0 L done h fr σ PL listed cf ρ a w) {i : Nat} {o : Oper} (hi : opsA.toList[i]? = some o) (hp : ∀ j ∈ preds o, j ∈ done) : ∀ j ∈ anc opsA i, j ∈ done :=
  ancs_closed (S := fun j => j ∈ done) I.dcl hi hp
theorem Inv.lan (I : Inv P ev B N opsA ρ0 σ0 w0 L done h fr σ PL listed cf ρ a w) {i : Nat} {o : Oper} (hi : opsA.toList[i]? = some o) (hp : ∀ j ∈ preds o, listed.getD j false = true) : ∀ j ∈ anc opsA i, listed.getD j false = true :=
  ancs_closed (S := fun j => listed.getD j false = true) I.lcl hi hp
theorem Inv.notl (I : Inv P ev B N opsA ρ0 σ0 w0 L done h fr σ PL listed cf ρ a w) {e : Ent} (he : e ∈ PL) : ¬ listed.getD e.i false = true := fun hl => (I.lst e.i).1 hl |>.2 e he rfl
theorem Inv.pan (I : Inv P ev B N opsA ρ0 σ0 w0 L done h fr σ PL listed cf ρ a w) {e : Ent} (he : e ∈ PL) : ∀ j ∈ anc opsA e.i, j ∈ done :=
  I.dan (I.pin e he).2.1 (I.dcl e.i e.o (I.pin e he).2.1 (I.pin e he).1)
theorem dst_lt {i : Nat} {o : Oper} (hN : N ≤ 512) (hall : opsA.toList.all (opOk N) = true) (ho : opsA.toList[i]? = some o) : ∀ s, o.dst = some s → s < 512 := fun s hs => Nat.lt_of_lt_of_le (opOk_dst (List.all_eq_true.1 hall o (List.mem_of_getElem? ho)) s hs) hN
theorem see_lt {i : Nat} {o : Oper} (hN : N ≤ 512) (hall : opsA.toList.all (opOk N) = true) (ho : opsA.toList[i]? = some o) : ∀ t ∈ seesOp opsA.toList o, t < 512 := sees_lt hN (by rw [← Array.getElem?_toList]; exact ho) hall
/-- What was read is still so read, the heap having changed. -/
theorem PK.rck {σ1 : Heap} {i d : Nat} {fr1 : Fm} {e : Ent} {f : Fm → Heap → K1 → Bool} (hf : noTu e.o (comp P e.o) = .ld f) (ho : opsA.toList[e.i]? = some e.o) (hrd : isRd e.o = true) (hd : e.o.dst = some d) (hdone : e.i ∈ done) (hna : e.i ∉ anc opsA i)
    (hv : get3 (ix d) fr1 = e.v) (ht : isTu e.v = false) (hfe : ∀ t ∈ seesOp opsA.toList e.o, get3 (ix t) fr1 = get3 (ix t) e.fr) (hr : RckS P ev B (rcks opsA.toList (csOf P opsA) (ancs opsA.toList) done i) fr1 σ1) : LdS P ev B e.o e.fr σ1 e.v := by
  rcases hr (ix d, f) (rcks_mem.2 ⟨e.i, e.o, d, hdone, hna, ho, hd, hrd, hf, rfl⟩) with h1 | h1
  · rw [show get3 (ix d, f).1 fr1 = e.v from hv, ht] at h1; cases h1
  · have := h1 e.o hf
    rw [show get3 (ix d, f).1 fr1 = e.v from hv] at this
    exact this.frame hfe
end
end
end Go.Rk
