/-
  Words of our own, of no program: the reckoner: operations that yield a value, the world standing (all of them).
-/
import Derived.Test.YtlkchdbbpnkbfaaGreatDoorRkH
namespace Go.Rk
open Go.RowKit
variable {P : Program} {ev : Nat → Nat} {B : Nat} {ρ : Ren} {σ : Heap} {w : World}
theorem cFieldAddr_run {s f off b i : Nat} (h : cFieldAddr P s f = some off) : (Instr.fieldAt s (.pointer (some ⟨b, i, none⟩)) f).run P w = .ok (.pointer (some ⟨b, i + off, none⟩)) w := by
  unfold cFieldAddr at h
  split at h
  · rename_i fs hu
    split at h
    · rename_i fd hf
      split at h
      · rename_i ti hi
        split at h
        · cases h
        · rename_i n hn
          simp only [Option.some.injEq] at h
          subst h
          simp only [Instr.fieldAt, Sem.run_bind, run_underlying hu w, Result.andThen_ok, hf, Instr.sureAddr, Sem.run_pure, fieldPlace, sizeOf, typeInfo, run_program, hi, hn]
          simp [Addr.add_mid]
      · cases h
    · cases h
  · cases h
theorem part_run {t n off : Nat} {b : Bool} {l : List AV} {cs : List Value} (hl : lay P t = some (b, n)) (hcs : VRs ev ρ l cs) (h1 : ∀ v ∈ cs, v.oneCell' = true) {v : AV} 
    (hv : (b = true ∧ n ≤ (l.drop off).length ∧ v = .ag ((l.drop off).take n)) ∨ (b = false ∧ l[off]? = some v)) : ∃ cv, (part t cs.toArray off).run P w = .ok cv w ∧ VR ev ρ v cv := by
  obtain ⟨d, i, hu, hi, hd, hn⟩ := lay_spec hl
  rcases hv with ⟨rfl, hle, rfl⟩ | ⟨rfl, hv⟩
  · refine ⟨.agg ((cs.drop off).take n).toArray, ?_, .ag ((hcs.drop off).take n) (fun v hv => h1 v (List.mem_of_mem_drop (List.mem_of_mem_take hv)))⟩
    simp only [part, Sem.run_bind, run_isAgg hu, hd, Result.andThen_ok, if_true, sizeOf, typeInfo, run_program, hi, Sem.run_pure, hn]
    congr 2
    apply Array.ext'
    simp
  · obtain ⟨c, hc, hvc⟩ := hcs.get hv
    refine ⟨c, ?_, hvc⟩
    simp only [part, Sem.run_bind, run_isAgg hu, hd, Result.andThen_ok, Bool.false_eq_true, if_false]
    simp [hc]
theorem partK_inv {off n : Nat} {b : Bool} {l : List AV} {k : K1} (h : partK off b n l k = true) : ∃ v, k v = true ∧ ((b = true ∧ n ≤ (l.drop off).length ∧ v = .ag ((l.drop off).take n)) ∨ (b = false ∧ l[off]? = some v)) := by
  unfold partK at h
  rw [iff_eq] at h
  cases b with
  | true =>
    simp only [if_true] at h
    obtain ⟨h1, h⟩ := dropL_inv h
    obtain ⟨h2, h⟩ := takeL_inv h
    exact ⟨_, h, .inl ⟨rfl, h2, rfl⟩⟩
  | false =>
    simp only [Bool.false_eq_true, if_false] at h
    obtain ⟨v, hv, h⟩ := getL_inv h
    rw [forceV_eq] at h
    exact ⟨v, h, .inr ⟨rfl, hv⟩⟩
theorem cElem_spec {t z n : Nat} {b : Bool} (h : cElem P t = some (b, z, n)) : ∃ e i, P.info? e = some i ∧ i.size = z ∧ ((b = false ∧ P.underlying t = some (.slice e)) ∨ (b = true ∧ P.underlying t = some (.array n e))) := by
  unfold cElem at h
  split at h
  · rename_i e hu
    split at h
    · rename_i i hi
      simp only [Option.some.injEq, Prod.mk.injEq] at h
      exact ⟨e, i, hi, h.2.1, .inl ⟨h.1.symm, hu⟩⟩
    · cases h
  · rename_i m e hu
    split at h
    · rename_i i hi
      simp only [Option.some.injEq, Prod.mk.injEq] at h
      obtain ⟨h1, h2, h3⟩ := h
      subst h3
      exact ⟨e, i, hi, h2, .inr ⟨h1.symm, hu⟩⟩
    · cases h
  · cases h
theorem ixSl_inv {z : Nat} {x i : AV} {k : K1} {t : Nat} {m : Nat} (ht : cElem P t = some (false, z, m)) (h : ixSl z x i k = true) :
    ∃ v, k v = true ∧ ∀ ρ cx ci, VR ev ρ x cx → VR ev ρ i ci → Val ev ρ P (Instr.indexAt t cx ci) v := by
  obtain ⟨e, ti, hi, hz, ht⟩ := cElem_spec ht
  rcases ht with ⟨-, hu⟩ | ⟨hf, -⟩
  case inr => cases hf
  obtain ⟨r, o, n, c, z', rfl, h⟩ := asSl_inv h
  obtain ⟨q, j, rfl, h⟩ := asI_inv h
  obtain ⟨j, rfl, h⟩ := natK_inv h
  obtain ⟨hj, h⟩ := guard_inv h
  rw [forceN_eq] at h
  have hj' : j < n := Nat.le_of_ble_eq_true hj
  refine ⟨_, h, fun ρ cx ci hx hy w => ?_⟩
  obtain ⟨b, base, E, a, c, hρ, rfl, hnc, ha, -, -, -⟩ := hx.asSl
  have ha' := ha (by omega)
  subst ha'
  refine ⟨.pointer (some ⟨b, base + (o + j * z), none⟩), ?_, .p hρ⟩
  rw [hy.asI]
  simp [Instr.indexAt, asIntOf, run_underlying hu, sizeOf, typeInfo, hi, hz, hj', Addr.add_mid, Nat.add_assoc]
theorem ixAr_inv {z n : Nat} {x i : AV} {k : K1} {t : Nat} (ht : cElem P t = some (true, z, n)) (h : ixAr z n x i k = true) :
    ∃ v, k v = true ∧ ∀ ρ cx ci, VR ev ρ x cx → VR ev ρ i ci → Val ev ρ P (Instr.indexAt t cx ci) v := by
  obtain ⟨e, ti, hi, hz, ht⟩ := cElem_spec ht
  rcases ht with ⟨hf, -⟩ | ⟨-, hu⟩
  case inl => cases hf
  obtain ⟨r, o, rfl, h⟩ := asP_inv h
  obtain ⟨q, j, rfl, h⟩ := asI_inv h
  obtain ⟨j, rfl, h⟩ := natK_inv h
  obtain ⟨hj, h⟩ := guard_inv h
  rw [forceN_eq] at h
  have hj' : j < n := Nat.le_of_ble_eq_true hj
  refine ⟨_, h, fun ρ cx ci hx hy w => ?_⟩
  obtain ⟨b, base, E, hρ, rfl⟩ := hx.asP
  refine ⟨.pointer (some ⟨b, base + (o + j * z), none⟩), ?_, .p hρ⟩
  rw [hy.asI]
  simp [Instr.indexAt, Instr.sureAddr, asIntOf, run_underlying hu, sizeOf, typeInfo, hi, hz, hj', Addr.add_mid, Nat.add_assoc]
theorem ixStr_inv {x i : AV} {k : K1} {t : Nat} (ht : tk P t = 5) (h : ixStr x i k = true) :
    ∃ v, k v = true ∧ ∀ ρ cx ci, VR ev ρ x cx → VR ev ρ i ci → Val ev ρ P (Instr.index t cx ci) v := by
  have hu : P.underlying t = some .string := by rcases tk_spec ht (by decide) with h | h | h | h | h | h <;> first | exact h.2 | (obtain ⟨h, -⟩ := h; cases h)
  obtain ⟨l, rfl, h⟩ := asS_inv h
  obtain ⟨q, j, rfl, h⟩ := asI_inv h
  obtain ⟨j, rfl, h⟩ := natK_inv h
  obtain ⟨b, hb, h⟩ := getN_inv h
  refine ⟨_, h, fun ρ cx ci hx hy w => ?_⟩
  obtain ⟨s, rfl, hs⟩ := hx.asS
  rw [hy.asI]
  unfold byteNs at hs
  rw [← hs, List.getElem?_map] at hb
  cases hq : s.data.toList[j]? with
  | none => rw [hq] at hb; cases hb
  | some u =>
    rw [hq] at hb
    simp only [Option.map_some, Option.some.injEq] at hb
    subst hb
    refine ⟨.int .u8 (u.toNat : Int), ?_, .i _ _⟩
    have hsz : s[j]? = some u := by
      have hlt : j < s.size := by have := (List.getElem?_eq_some_iff.1 hq).1; rw [Array.length_toList] at this; exact this
      have hq2 := (List.getElem?_eq_some_iff.1 hq).2
      rw [getElem?_pos s j hlt]
      congr 1
    simp [Instr.index, asIntOf, run_underlying hu, hsz]
theorem exK_inv {n : Nat} {x : AV} {k : K1} (h : exK n x k = true) : ∃ v, k v = true ∧ ∀ ρ cx, VR ev ρ x cx → Val ev ρ P (Instr.extract cx n) v := by
  obtain ⟨l, rfl, h⟩ := asTu_inv h
  obtain ⟨v, hv, h⟩ := getL_inv h
  rw [forceV_eq] at h
  refine ⟨v, h, fun ρ cx hx w => ?_⟩
  obtain ⟨cs, rfl, hcs⟩ := hx.asTu
  obtain ⟨c, hc, hvc⟩ := hcs.get hv
  exact ⟨c, by simp [Instr.extract, hc], hvc⟩
theorem unK_inv {op : UnOp} {x : AV} {k : K1} (h : unK op x k = true) : ∃ v, k v = true ∧ ∀ ρ cx, VR ev ρ x cx → Val ev ρ P (Op.unary op cx) v := by
  cases op with
  | neg =>
    obtain ⟨q, n, rfl, h2⟩ := asI_inv (show asI x _ = true from h)
    rw [subF_eq] at h2
    exact ⟨_, h2, fun ρ cx hx w => ⟨_, by rw [hx.asI]; simp [Op.unary, Op.intArith], .i _ _⟩⟩
  | xor =>
    obtain ⟨q, n, rfl, h2⟩ := asI_inv (show asI x _ = true from h)
    unfold bitsF at h2
    rw [forceI_eq] at h2
    exact ⟨_, h2, fun ρ cx hx w => ⟨_, by rw [hx.asI]; simp [Op.unary, Op.intBits], .i _ _⟩⟩
  | not =>
    obtain ⟨b, rfl, h2⟩ := asB_inv (show asB x _ = true from h)
    rw [fB_eq] at h2
    exact ⟨_, h2, fun ρ cx hx w => ⟨_, by rw [hx.asB]; simp [Op.unary], .b _⟩⟩
  | plus => exact nomatch (show false = true from h)
-- slices
theorem bnd_inv {x : Option AV} {d : Nat} {k : Nat → Bool} (h : bnd x d k = true) : ∃ m, k m = true ∧ ((x = none ∧ m = d) ∨ ∃ q, x = some (.i q (m : Int))) := by
  cases x with
  | none => exact ⟨d, h, .inl ⟨rfl, rfl⟩⟩
  | some v =>
    obtain ⟨q, n, rfl, h⟩ := asI_inv (show (asI v fun _ m => natK m k) = true from h)
    obtain ⟨n, rfl, h⟩ := natK_inv h
    exact ⟨n, h, .inr ⟨q, rfl⟩⟩
/-- Bounds that were given, or not. -/
inductive OV (ev : Nat → Nat) (ρ : Ren) : Option AV → Option Value → Prop
  | no : OV ev ρ none none
  | so {v : AV} {c : Value} (h : VR ev ρ v c) : OV ev ρ (some v) (some c)
theorem OV.n {c : Option Value} (h : OV ev ρ none c) : c = none := by cases h; rfl
theorem OV.i {c : Option Value} {q : IntKind} {n : Int} (h : OV ev ρ (some (.i q n)) c) : c = some (.int q n) := by cases h with | so h => rw [h.asI]
theorem sliceBound_run {q : IntKind} {i y : Nat} (code : BoundsCode) (h : i ≤ y) : (Instr.sliceBound (.int q (i : Int)) y code).run P w = .ok i w := by
  have h' : (i : Int) ≤ (y : Int) := by omega
  simp [Instr.sliceBound, asIntOf, h]
theorem sliceBounds_run {isS : Bool} {len cap l h m : Nat} {lo hi mx : Option AV} {cl ch cm : Option Value} (hlo : OV ev ρ lo cl) (hhi : OV ev ρ hi ch) (hmx : OV ev ρ mx cm)
    (e1 : (mx = none ∧ m = cap) ∨ ∃ q, mx = some (.i q (m : Int))) (e2 : (hi = none ∧ h = len ∧ mx = none) ∨ ∃ q, hi = some (.i q (h : Int))) (e3 : (lo = none ∧ l = 0) ∨ ∃ q, lo = some (.i q (l : Int)))
    (k1 : m ≤ cap) (k2 : h ≤ m) (k3 : l ≤ h) : (Instr.sliceBounds isS len cap cl ch cm).run P w = .ok (l, h, m) w := by
  have c1 : (cm = none ∧ m = cap) ∨ ∃ q, cm = some (.int q (m : Int)) := e1.imp (fun ⟨a, b⟩ => ⟨(a ▸ hmx).n, b⟩) (fun ⟨q, a⟩ => ⟨q, (a ▸ hmx).i⟩)
  have c2 : (ch = none ∧ h = len ∧ cm = none) ∨ ∃ q, ch = some (.int q (h : Int)) := e2.imp (fun ⟨a, b, c⟩ => ⟨(a ▸ hhi).n, b, (c ▸ hmx).n⟩) (fun ⟨q, a⟩ => ⟨q, (a ▸ hhi).i⟩)
  have c3 : (cl = none ∧ l = 0) ∨ ∃ q, cl = some (.int q (l : Int)) := e3.imp (fun ⟨a, b⟩ => ⟨(a ▸ hlo).n, b⟩) (fun ⟨q, a⟩ => ⟨q, (a ▸ hlo).i⟩)
  clear e1 e2 e3 hlo hhi hmx
  rcases c1 with ⟨rfl, rfl⟩ | ⟨q1, rfl⟩ <;> rcases c2 with ⟨rfl, rfl, h0⟩ | ⟨q2, rfl⟩ <;> rcases c3 with ⟨rfl, rfl⟩ | ⟨q3, rfl⟩ <;> (try cases h0) <;> simp [Instr.sliceBounds, sliceBound_run, k1, k2, k3]
theorem slStr_inv {x : AV} {lo hi : Option AV} {k : K1} {t : Nat} (hu : P.underlying t = some .string) (h : slStr x lo hi k = true) :
    ∃ v, k v = true ∧ ∀ ρ cx cl ch, VR ev ρ x cx → OV ev ρ lo cl → OV ev ρ hi ch → Val ev ρ P (Instr.sliceAt t cx cl ch none) v := by
  obtain ⟨l, rfl, h0⟩ := asS_inv h
  clear h
  have h := h0
  clear h0
  rw [lenN_eq] at h
  obtain ⟨hh, h, e2⟩ := bnd_inv h
  obtain ⟨g1, h⟩ := guard_inv h
  obtain ⟨o, h, e3⟩ := bnd_inv h
  obtain ⟨g2, h⟩ := guard_inv h
  obtain ⟨g3, h⟩ := dropN_inv h
  obtain ⟨g4, h⟩ := takeN_inv h
  refine ⟨_, h, fun ρ cx cl ch hx hlo hhi w => ?_⟩
  obtain ⟨s, rfl, hs⟩ := hx.asS
  have hsz : l.length = s.size := by rw [← hs, byteNs_size]
  have g1' := Nat.le_of_ble_eq_true g1
  have g2' := Nat.le_of_ble_eq_true g2
  rw [hsz] at e2 g1'
  have hb := sliceBounds_run (P := P) (w := w) (isS := false) (len := s.size) (cap := s.size) hlo hhi (.no (ev := ev) (ρ := ρ)) (.inl ⟨rfl, rfl⟩) (e2.imp (fun ⟨a, b⟩ => ⟨a, b, rfl⟩) id) e3 (Nat.le_refl _) g1' g2'
  refine ⟨.string (s.extract o hh), ?_, .s ?_⟩
  · simp [Instr.sliceAt, Instr.slice, run_underlying hu, hb]
  · rw [← hs]
    unfold byteNs
    rw [show (s.extract o hh).data.toList = (s.data.toList.drop o).take (hh - o) by rw [ByteArray.data_extract, Array.toList_extract, List.extract_eq_take_drop]]
    simp [List.map_drop, List.map_take]
theorem slC_inv {c : Option Nat} {h o : Nat} {k : Option Nat → Bool} (hk : slC c h o false k = true) : ∃ c', k c' = true ∧ ((c = none ∧ c' = none) ∨ ∃ j, c = some j ∧ c' = some (j - o)) := by
  cases c with
  | none => exact ⟨none, hk, .inl ⟨rfl, rfl⟩⟩
  | some j =>
    have : (forceN (Nat.sub j o) fun n => k (some n)) = true := hk
    rw [forceN_eq] at this
    exact ⟨_, this, .inr ⟨j, rfl, rfl⟩⟩
theorem capGe_inv {r : Id} {o n z hh : Nat} {c : Option Nat} {t : Bool} (hz : 0 < z) (h : capGe r o n c z hh σ t = true) : t = true ∧ ∀ (ρ : Ren) (w : World) (b base E k : Nat), HR ev B σ ρ w → ρ r = some (b, base, E) → n ≤ k → (∀ j, c = some j → k = j) → (c = none → o + k * z = E) → hh ≤ k := by
  cases c with
  | some c =>
    obtain ⟨h1, h2⟩ := guard_inv (show guard_ (Nat.ble hh c) t = true from h)
    exact ⟨h2, fun ρ w b base E k _ _ _ hk _ => by rw [hk c rfl]; exact Nat.le_of_ble_eq_true h1⟩
  | none =>
    have h' : iff_ (Nat.ble hh n) t (rowK (σ.get r) fun l => lenN l fun m => guard_ (Nat.ble (Nat.add o (Nat.mul hh z)) m) t) = true := h
    rw [iff_eq] at h'
    split at h'
    · rename_i h1
      exact ⟨h', fun ρ w b base E k _ _ hn _ _ => Nat.le_trans (Nat.le_of_ble_eq_true h1) hn⟩
    · obtain ⟨l, hl, h2⟩ := rowK_inv h'
      rw [lenN_eq] at h2
      obtain ⟨h3, h4⟩ := guard_inv h2
      have h5 : o + hh * z ≤ l.length := Nat.le_of_ble_eq_true h3
      refine ⟨h4, fun ρ w b base E k hr hρ hn _ hu => ?_⟩
      have h6 := (hr.load hρ hl).1
      have h7 := hu rfl
      have h8 : hh * z ≤ k * z := by omega
      exact Nat.le_of_mul_le_mul_right h8 hz
end Go.Rk
