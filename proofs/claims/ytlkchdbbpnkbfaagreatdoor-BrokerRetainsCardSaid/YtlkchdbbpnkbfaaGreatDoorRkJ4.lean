/-
  Words of our own, of no program: the reckoner: every operation that yields a value, the world standing.
-/
import Derived.Test.YtlkchdbbpnkbfaaGreatDoorRkJ3
import Derived.Laws.IdiomStrings
namespace Go.Rk
open Go.RowKit
variable {P : Program} {ev : Nat → Nat} {B : Nat} {ρ : Ren} {σ : Heap} {w : World}
theorem argsK_eq : ∀ (xs : List Operand) (fr : Fm) (k : List AV → Bool), argsK xs fr k = k (xs.map fun x => oval x fr)
  | [], _, _ => rfl
  | x :: xs, fr, k => by
    show (forceV (oval x fr) fun v => argsK xs fr fun t => k (v :: t)) = _
    rw [forceV_eq, argsK_eq xs fr]; rfl
theorem VRs.map {fr : Fm} {a : Act} : ∀ {xs : List Operand}, (∀ x ∈ xs, VR ev ρ (oval x fr) (a.eval x)) → VRs ev ρ (xs.map fun x => oval x fr) (xs.map a.eval)
  | [], _ => .nil
  | x :: xs, h => .cons (h x (by simp)) (VRs.map fun y hy => h y (by simp [hy]))
theorem toI_inv {q : IntKind} {x : AV} {k : K1} (h : toI q x k = true) : ∃ q' n, x = .i q' n ∧ k (.i q (q.wrap n)) = true := by
  obtain ⟨q', n, rfl, h⟩ := asI_inv h
  refine ⟨q', n, rfl, ?_⟩
  cases n with
  | ofNat m =>
    have h' : wrN q m (fun n => k (.i q n)) = true := ‹_›
    rw [wrN_eq] at h'; exact h'
  | negSucc m =>
    have h' : forceI (q.wrap (.negSucc m)) (fun n => k (.i q n)) = true := ‹_›
    rw [forceI_eq] at h'; exact h'
theorem srcV_inv {x : AV} {z : Nat} {k : Nat → List AV → Bool} (h : srcV x z σ k = true) : ∃ n l, k n l = true ∧ l.length = n * z ∧
    ((x = .nils ∧ n = 0) ∨ (∃ r o c row, x = .sl r o n c z ∧ (σ.get r = .ex row ∨ σ.get r = .gr row) ∧ o + n * z ≤ row.length ∧ l = (row.drop o).take (n * z)) ∨
      (∃ s : List Nat, x = .s s ∧ z = 1 ∧ n = s.length ∧ l = s.map fun b : Nat => AV.i .u8 (b : Int))) := by
  cases x <;> first | exact nomatch (show false = true from h) | skip
  case nils => exact ⟨0, [], h, by simp, .inl ⟨rfl, rfl⟩⟩
  case sl r o n c z' =>
    obtain ⟨g, h'⟩ := guard_inv (show guard_ (Nat.beq z' z) _ = true from h)
    clear h
    have hz := Nat.eq_of_beq_eq_true g
    subst hz
    obtain ⟨row, hrow, h⟩ := rowK_inv h'
    obtain ⟨h1, h⟩ := dropL_inv h
    obtain ⟨h2, h⟩ := takeL_inv h
    rw [List.length_drop] at h2
    have h2' : n * z' ≤ row.length - o := h2
    exact ⟨n, _, h, by rw [List.length_take, List.length_drop]; exact Nat.min_eq_left h2', .inr (.inl ⟨r, o, c, row, rfl, hrow, by omega, rfl⟩)⟩
  case s s =>
    obtain ⟨g, h'⟩ := guard_inv (show guard_ (Nat.beq z 1) _ = true from h)
    clear h
    have h := h'
    clear h'
    have hz := Nat.eq_of_beq_eq_true g
    subst hz
    rw [lenN_eq] at h
    have e : ∀ (s : List Nat) (k : List AV → Bool), u8s s k = k (s.map fun b : Nat => AV.i .u8 (b : Int)) := fun s => by
      induction s with
      | nil => intro k; rfl
      | cons b s ih => intro k; show (u8s s fun t => k (.i .u8 (.ofNat b) :: t)) = _; rw [ih]; rfl
    rw [e] at h
    exact ⟨s.length, _, h, by simp, .inr (.inr ⟨s, rfl, rfl, rfl, rfl⟩)⟩
theorem byts_inv : ∀ {l : List AV} {k : List Nat → Bool}, byts l k = true → ∃ ns : List Nat, k ns = true ∧ l = ns.map (fun n : Nat => AV.i .u8 (n : Int)) ∧ ∀ n ∈ ns, n ≤ 255
  | [], k, h => ⟨[], h, rfl, by simp⟩
  | x :: l, k, h => by
    obtain ⟨q, n, rfl, h⟩ := asI_inv (show (asI x fun q n => guard_ (Nat.beq (kc q) 4) (natK n fun n => guard_ (Nat.ble n 255) (byts l fun t => k (n :: t)))) = true from h)
    obtain ⟨g, h⟩ := guard_inv h
    obtain ⟨n, rfl, h⟩ := natK_inv h
    obtain ⟨g2, h⟩ := guard_inv h
    obtain ⟨ns, hk, rfl, hn⟩ := byts_inv h
    have hq : q = .u8 := by have h' := Nat.eq_of_beq_eq_true g; cases q <;> first | rfl | exact absurd h' (by decide)
    subst hq
    exact ⟨n :: ns, hk, rfl, fun m hm => by
      rcases List.mem_cons.1 hm with rfl | hm
      · exact Nat.le_of_ble_eq_true g2
      · exact hn m hm⟩
theorem VRs.ints : ∀ {ns : List Nat} {cs : List Value}, VRs ev ρ (ns.map fun n : Nat => AV.i .u8 (n : Int)) cs → cs = ns.map fun n : Nat => Value.int .u8 (n : Int)
  | [], _, .nil => rfl
  | n :: ns, _, .cons h t => by rw [List.map_cons, ← VRs.ints t, h.asI]
theorem isU8_spec {t : Nat} (h : isU8 P t = true) : ∃ e, P.underlying t = some (.slice e) ∧ P.underlying e = some (.int .u8) := by
  unfold isU8 at h
  split at h
  · rename_i e hu
    split at h
    · exact ⟨e, hu, ‹_›⟩
    · cases h
  · cases h
theorem slice_cells {b base E o a n c z : Nat} {row : List AV} (hr : HR ev B σ ρ w) {r : Id} (hρ : ρ r = some (b, base, E)) (hrow : σ.get r = .ex row ∨ σ.get r = .gr row) (hin : o + n * z ≤ row.length)
    (ha : c ≠ 0 → a = base + o) (hnc : n ≤ c) : ∃ cs, VRs ev ρ ((row.drop o).take (n * z)) cs ∧ cs.length = n * z ∧ w.rangeAt b a cs ∧ ∀ v ∈ cs, v.oneCell' = true := by
  obtain ⟨-, cs, hcs, hra, h1⟩ := hr.load hρ hrow
  have hl := hcs.length
  refine ⟨(cs.drop o).take (n * z), (hcs.drop o).take _, by rw [List.length_take, List.length_drop]; omega, fun j u hj => ?_, fun v hv => h1 v (List.mem_of_mem_drop (List.mem_of_mem_take hv))⟩
  rw [List.getElem?_take] at hj
  split at hj
  · rename_i hlt
    rw [List.getElem?_drop] at hj
    have hn0 : 0 < n := by
      rcases Nat.eq_zero_or_pos n with h | h
      · subst h; simp at hlt
      · exact h
    rw [ha (by omega), Nat.add_assoc]
    exact hra (o + j) u hj
  · cases hj
theorem b2s_inv {x : AV} {k : K1} {s d : Nat} (hs : isU8 P s = true) (hd : P.underlying d = some .string) (h : b2s x σ k = true) :
    ∃ v, k v = true ∧ ∀ ρ w cx, VR ev ρ x cx → HR ev B σ ρ w → ∃ cv, (convert s d cx).run P w = .ok cv w ∧ VR ev ρ v cv := by
  obtain ⟨e, hs, he⟩ := isU8_spec hs
  have hnt : ∀ l, x ≠ .s l := fun l e => by subst e; exact nomatch (show false = true from h)
  have h : (srcV x 1 σ fun _ l => byts l fun l => k (.s l)) = true := by cases x <;> first | exact h | exact absurd rfl (hnt _)
  obtain ⟨n, l, h, hlen, hx⟩ := srcV_inv h
  obtain ⟨ns, hk, rfl, hns⟩ := byts_inv h
  refine ⟨_, hk, fun ρ w cx hc hr => ?_⟩
  rcases hx with ⟨rfl, rfl⟩ | ⟨r, o, c, row, rfl, hrow, hin, hl⟩ | ⟨s, rfl, -⟩
  · rw [hc.asNils]
    have hns0 : ns = [] := by cases ns with | nil => rfl | cons _ _ => simp at hlen
    subst hns0
    refine ⟨.string .empty, ?_, .s rfl⟩
    rw [run_convert_bytes_string w s d e none 0 0 hs he hd]
    rfl
  · obtain ⟨b, base, E, a, kk, hρ, rfl, hnk, ha, -, -, -⟩ := hc.asSl
    obtain ⟨cs, hcs, hcl, hra, -⟩ := slice_cells hr hρ hrow hin ha hnk
    rw [← hl] at hcs
    have hcs' := hcs.ints
    subst hcs'
    have hbyte : ∀ m ∈ ns, (UInt8.ofNat m).toNat = m := fun m hm => by have := hns m hm; simp; omega
    have hback := run_convert_bytes_back w s d e ⟨b, a, none⟩ kk (ns.map UInt8.ofNat) hs he hd (fun j hj => by
      rw [Addr.add_mid]
      have hj' : j < ns.length := by simpa using hj
      have := hra j (.int .u8 (ns[j] : Int)) (by rw [List.getElem?_map, List.getElem?_eq_getElem hj']; rfl)
      rw [this]
      congr 2
      rw [List.getElem_map, hbyte _ (List.getElem_mem hj')])
    have hnl : (ns.map UInt8.ofNat).length = n := by simp at hlen ⊢; omega
    rw [hnl] at hback
    refine ⟨_, hback, .s ?_⟩
    unfold byteNs
    simp only [List.map_map]
    refine List.ext_getElem (by simp) (fun j h1 h2 => ?_)
    simp only [List.getElem_map, Function.comp]
    exact hbyte _ (List.getElem_mem _)
  · exact absurd rfl (hnt s)
theorem lnV_inv {x : AV} {k : K1} (h : lnV x k = true) : (x = .nils ∧ k (.i .i64 0) = true) ∨ (∃ r o n c z, x = .sl r o n c z ∧ k (.i .i64 (n : Int)) = true) ∨ ∃ j lb, x = .osl j lb ∧ k (if j = 0 then .i .i64 (lb : Int) else .nat j lb) = true := by
  cases x <;> first | exact nomatch (show false = true from h) | skip
  case nils => exact .inl ⟨rfl, h⟩
  case sl r o n c z => exact .inr (.inl ⟨r, o, n, c, z, rfl, h⟩)
  case osl j lb => exact .inr (.inr ⟨j, lb, rfl, by cases j <;> exact h⟩)
theorem capV_inv {x : AV} {k : K1} (h : capV x k = true) : (x = .nils ∧ k (.i .i64 0) = true) ∨ ∃ r o n c z, x = .sl r o n (some c) z ∧ k (.i .i64 (c : Int)) = true := by
  cases x <;> first | exact nomatch (show false = true from h) | skip
  case nils => exact .inl ⟨rfl, h⟩
  case sl r o n c z => cases c with
    | none => exact nomatch (show false = true from h)
    | some c => exact .inr ⟨r, o, n, c, z, rfl, h⟩
theorem mmK_inv {mx : Bool} {x y : AV} {k : K1} (h : mmK mx x y k = true) : ∃ q m n, x = .i q m ∧ y = .i q n ∧ k (.i q (if mx then (if m < n then n else m) else (if n < m then n else m))) = true := by
  obtain ⟨q, m, rfl, h1⟩ := asI_inv h
  obtain ⟨q', n, rfl, h2⟩ := asI_inv h1
  obtain ⟨g, h3⟩ := guard_inv h2
  have := kc_inj g
  subst this
  refine ⟨q, m, n, rfl, rfl, ?_⟩
  clear h h1 h2
  rw [iff_eq, ltF_eq, ltF_eq, iff_eq, iff_eq] at h3
  cases mx
  · simp only [Bool.false_eq_true, if_false, decide_eq_true_eq] at h3 ⊢
    by_cases hnm : n < m
    · rw [if_pos hnm] at h3 ⊢; exact h3
    · rw [if_neg hnm] at h3 ⊢; exact h3
  · simp only [if_true, decide_eq_true_eq] at h3 ⊢
    by_cases hnm : m < n
    · rw [if_pos hnm] at h3 ⊢; exact h3
    · rw [if_neg hnm] at h3 ⊢; exact h3
end Go.Rk
