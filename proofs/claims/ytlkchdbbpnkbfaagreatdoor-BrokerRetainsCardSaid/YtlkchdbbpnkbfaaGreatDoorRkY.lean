/-
  Words of our own, of no program: the reckoner: functions of the library that have no Go text: what they come to; the law.
-/
import Derived.Test.YtlkchdbbpnkbfaaGreatDoorRkW
import Derived.Lib.Bytealg
import Derived.Laws.Externs
namespace Go.Rk
open Go.RowKit
noncomputable section
variable {P : Program} {ev : Nat → Nat} {B : Nat}
theorem callWp_mono {f : Nat} {args : Array Value} {w : World} {R R' : Value → World → Prop} (h : callWp P f args w R) (hR : ∀ v w', R v w' → R' v w') : callWp P f args w R' := by
  unfold callWp at h ⊢
  split at h
  · exact hR _ _ h
  · exact Calls.mono h fun e w'' he => by
      cases e with
      | returned v => exact hR _ _ he
      | panicked _ => exact he.elim
      | outgrown => exact he.elim
  · exact h.elim
theorem callWp_extern {f : Nat} {fn : Func} {e : Array Value → Sem Value} (hf : P.funcs[f]? = some fn) (hname : (fn.name == "runtime.NumGoroutine") = false) (hb : fn.body.isNone = true) (hn : Extern.findNext fn = none) (he : Extern.find fn = some e)
    {args : Array Value} {w : World} {u : Value} {R : Value → World → Prop} (hrun : (e args).run P w = .ok u w) (h : R u w) : callWp P f args w R := by
  unfold callWp
  rw [run_callFunc_extern hf hname hb hn he args w, hrun]
  exact h
theorem fstN_inv : ∀ {l : List Nat} {c i : Nat} {k : K1}, fstN l c i k = true → ∃ n : Int, k (.i .i64 n) = true ∧ ∀ u : List UInt8, u.map UInt8.toNat = l → ∀ c' : UInt8, c'.toNat = c → n = (if Lib.indexByte u c' = -1 then -1 else Lib.indexByte u c' + i)
  | [], c, i, k, h => ⟨.negSucc 0, h, fun u hu c' _ => by
      have : u = [] := by simpa using hu
      subst this; rfl⟩
  | x :: l, c, i, k, h => by
    rcases iff_inv (show iff_ (Nat.beq x c) (k (.i .i64 (.ofNat i))) (forceN (Nat.succ i) fun i => fstN l c i k) = true from h) with ⟨g, h1⟩ | ⟨g, h1⟩
    · refine ⟨(i : Int), h1, fun u hu c' hc => ?_⟩
      cases u with
      | nil => cases hu
      | cons a u =>
        simp only [List.map_cons, List.cons.injEq] at hu
        have hac : a = c' := UInt8.toNat_inj.1 (by rw [hu.1, hc]; exact Nat.eq_of_beq_eq_true g)
        subst hac
        simp [Lib.indexByte]
    · rw [forceN_eq] at h1
      obtain ⟨n, h2, h3⟩ := fstN_inv h1
      refine ⟨n, h2, fun u hu c' hc => ?_⟩
      cases u with
      | nil => cases hu
      | cons a u =>
        simp only [List.map_cons, List.cons.injEq] at hu
        have hac : a ≠ c' := fun e => by subst e; rw [← hu.1, hc, Nat.beq_refl] at g; cases g
        rw [h3 u hu.2 c' hc]
        have hge := Lib.indexByte_ge u c'
        have e : Lib.indexByte (a :: u) c' = if Lib.indexByte u c' = -1 then -1 else Lib.indexByte u c' + 1 := by simp [Lib.indexByte, hac]
        rw [e]
        by_cases he : Lib.indexByte u c' = -1
        · simp [he]
        · rw [if_neg he, if_neg he, if_neg (by omega)]
          push_cast
          omega
/-- internal/bytealg.IndexByteString -/
def ixByte (vs : List AV) (σ : Heap) (k : K2) : Bool :=
  match vs with
  | [x, y] => asS x fun l => asI y fun q c => guard_ (Nat.beq (kc q) 4) (natK c fun c => guard_ (Nat.ble c 255) (fstN l c 0 fun v => k v σ))
  | _ => false
def ExtFact (P : Program) (f : Nat) (e : Array Value → Sem Value) : Prop := ∃ fn, P.funcs[f]? = some fn ∧ (fn.name == "runtime.NumGoroutine") = false ∧ fn.body.isNone = true ∧ Extern.findNext fn = none ∧ Extern.find fn = some e
theorem ixByte_ok {f : Nat} (hf : ExtFact P f Extern.BytealgIndexByte.indexByte) {vs : List AV} {σ : Heap} {k : K2} (h : ixByte vs σ k = true) : ∃ v σ', k v σ' = true ∧ CallS P ev B f vs σ v σ' := by
  obtain ⟨fn, h1, h2, h3, h4, h5⟩ := hf
  unfold ixByte at h
  split at h
  · rename_i x y
    obtain ⟨l, rfl, g1⟩ := asS_inv h
    obtain ⟨q, c, rfl, g2⟩ := asI_inv g1
    obtain ⟨g3, g4⟩ := guard_inv g2
    obtain ⟨c, rfl, g5⟩ := natK_inv g4
    obtain ⟨g6, g7⟩ := guard_inv g5
    obtain ⟨n, g8, g9⟩ := fstN_inv g7
    have hq : q = .u8 := kc_inj' (q' := .u8) g3
    subst hq
    refine ⟨_, σ, g8, fun ρ cs w R hB hvs hr hR => ?_⟩
    cases hvs with
    | cons hx hvs =>
      cases hvs with
      | cons hy hvs =>
        cases hvs
        obtain ⟨s, rfl, hs⟩ := hx.asS
        rw [hy.asI]
        have hc : c < 256 := Nat.lt_succ_of_le (Nat.le_of_ble_eq_true g6)
        have hn := g9 s.data.toList hs (Int.toNat (c : Int)).toUInt8 (by simp; omega)
        have hz : (if Lib.indexByte s.data.toList (Int.toNat (c : Int)).toUInt8 = -1 then -1 else Lib.indexByte s.data.toList (Int.toNat (c : Int)).toUInt8 + ((0 : Nat) : Int)) = Lib.indexByte s.data.toList (Int.toNat (c : Int)).toUInt8 := by
          split
          · rename_i e; exact e.symm
          · simp
        rw [hz] at hn
        refine callWp_extern h1 h2 h3 h4 h5 (Lib.run_indexByteString (P := P) s (c : Int) w) (hR ρ _ w (Ext.refl _ _) ?_ hr (Below.refl B w) hB)
        rw [hn]; exact .i _ _
  · cases h
theorem cmp_ns : ∀ a b : List UInt8, Lib.compareBytes a b = if ltN (a.map UInt8.toNat) (b.map UInt8.toNat) = true then -1 else if eqN (a.map UInt8.toNat) (b.map UInt8.toNat) = true then 0 else 1
  | [], [] => rfl
  | [], _ :: _ => rfl
  | _ :: _, [] => rfl
  | a :: as, b :: bs => by
    have e1 : ltN ((a :: as).map UInt8.toNat) ((b :: bs).map UInt8.toNat) = iff_ (Nat.ble (Nat.succ a.toNat) b.toNat) true (guard_ (Nat.beq a.toNat b.toNat) (ltN (as.map UInt8.toNat) (bs.map UInt8.toNat))) := rfl
    have e2 : eqN ((a :: as).map UInt8.toNat) ((b :: bs).map UInt8.toNat) = guard_ (Nat.beq a.toNat b.toNat) (eqN (as.map UInt8.toNat) (bs.map UInt8.toNat)) := rfl
    rw [e1, e2]
    unfold Lib.compareBytes
    by_cases hlt : a < b
    · have : Nat.ble (Nat.succ a.toNat) b.toNat = true := Nat.ble_eq_true_of_le (UInt8.lt_iff_toNat_lt.1 hlt)
      rw [if_pos hlt, this]; rfl
    · have h1 : Nat.ble (Nat.succ a.toNat) b.toNat = false := by
        cases hb : Nat.ble (Nat.succ a.toNat) b.toNat with
        | false => rfl
        | true => exact absurd (UInt8.lt_iff_toNat_lt.2 (Nat.le_of_ble_eq_true hb)) hlt
      rw [if_neg hlt, h1]
      by_cases hgt : b < a
      · have h2 : Nat.beq a.toNat b.toNat = false := by
          cases hb : Nat.beq a.toNat b.toNat with
          | false => rfl
          | true => have := UInt8.lt_iff_toNat_lt.1 hgt; have := Nat.eq_of_beq_eq_true hb; omega
        rw [if_pos hgt, h2]; rfl
      · have h2 : Nat.beq a.toNat b.toNat = true := by
          have : a.toNat = b.toNat := by
            have h3 : ¬ a.toNat < b.toNat := fun h => hlt (UInt8.lt_iff_toNat_lt.2 h)
            have h4 : ¬ b.toNat < a.toNat := fun h => hgt (UInt8.lt_iff_toNat_lt.2 h)
            omega
          rw [this]; exact Nat.beq_refl _
        rw [if_neg hgt, h2]
        exact cmp_ns as bs
/-- internal/bytealg.abigen_runtime_cmpstring -/
theorem exCmp_ok {f : Nat} (hf : ExtFact P f Extern.BytealgCompare.compare) {vs : List AV} {σ : Heap} {k : K2} (h : exCmp vs σ k = true) : ∃ v σ', k v σ' = true ∧ CallS P ev B f vs σ v σ' := by
  obtain ⟨fn, h1, h2, h3, h4, h5⟩ := hf
  unfold exCmp at h
  split at h
  · rename_i x y
    obtain ⟨l, rfl, g1⟩ := asS_inv h
    obtain ⟨r, rfl, g2⟩ := asS_inv g1
    have key : ∃ n : Int, k (.i .i64 n) σ = true ∧ n = if ltN l r = true then -1 else if eqN l r = true then 0 else 1 := by
      rcases iff_inv g2 with ⟨e, g3⟩ | ⟨e, g3⟩
      · exact ⟨_, g3, by rw [if_pos e]; rfl⟩
      · rcases iff_inv g3 with ⟨e', g4⟩ | ⟨e', g4⟩
        · exact ⟨_, g4, by rw [if_neg (by rw [e]; simp), if_pos e']; rfl⟩
        · exact ⟨_, g4, by rw [if_neg (by rw [e]; simp), if_neg (by rw [e']; simp)]; rfl⟩
    obtain ⟨n, g5, g6⟩ := key
    refine ⟨_, σ, g5, fun ρ cs w R hB hvs hr hR => ?_⟩
    cases hvs with
    | cons hx hvs =>
      cases hvs with
      | cons hy hvs =>
        cases hvs
        obtain ⟨s, rfl, hs⟩ := hx.asS
        obtain ⟨s', rfl, hs'⟩ := hy.asS
        refine callWp_extern h1 h2 h3 h4 h5 (Lib.run_compareString (P := P) s s' w) (hR ρ _ w (Ext.refl _ _) ?_ hr (Below.refl B w) hB)
        rw [cmp_ns]
        have e1 : s.data.toList.map UInt8.toNat = l := hs
        have e2 : s'.data.toList.map UInt8.toNat = r := hs'
        rw [e1, e2, ← g6]
        exact .i _ _
  · cases h
def ov2 (i c : Nat) : Over := fun f => if Nat.beq f i then some ixByte else if Nat.beq f c then some exCmp else none
theorem ov2_ok {i c : Nat} (hi : ExtFact P i Extern.BytealgIndexByte.indexByte) (hc : ExtFact P c Extern.BytealgCompare.compare) : OvOk P ev B (ov2 i c) := fun f g hg vs σ k h => by
  unfold ov2 at hg
  split at hg
  · rename_i e
    have := Nat.eq_of_beq_eq_true e
    subst this
    cases hg
    exact ixByte_ok hi h
  · split at hg
    · rename_i e
      have := Nat.eq_of_beq_eq_true e
      subst this
      cases hg
      exact exCmp_ok hc h
    · cases hg
/-- A function that takes a number of which little is known, and c, and yields r. -/
def zAns (j c r : Nat) (vs : List AV) (σ : Heap) (k : K2) : Bool :=
  match vs with
  | [.cx .f32 _ j', y] => guard_ (Nat.beq j' j) (asI y fun q n => guard_ (Nat.beq (kc q) 3) (natK n fun n => guard_ (Nat.beq n c) (k (.i .i64 (.ofNat r)) σ)))
  | _ => false
theorem zAns_ok {f j c r : Nat} (hf : ∀ w, callWp P f #[.int .i64 (ez (ev j)), .int .i64 (c : Int)] w fun v w' => v = .int .i64 (r : Int) ∧ w = w') {vs : List AV} {σ : Heap} {k : K2} (h : zAns j c r vs σ k = true) : ∃ v σ', k v σ' = true ∧ CallS P ev B f vs σ v σ' := by
  unfold zAns at h
  split at h
  · rename_i r' j' y
    obtain ⟨g1, h1⟩ := guard_inv h
    have hj := Nat.eq_of_beq_eq_true g1
    subst hj
    obtain ⟨q, n, rfl, h2⟩ := asI_inv h1
    obtain ⟨g2, h3⟩ := guard_inv h2
    have hq := kc3 g2
    subst hq
    obtain ⟨n, rfl, h4⟩ := natK_inv h3
    obtain ⟨g3, h5⟩ := guard_inv h4
    have hn := Nat.eq_of_beq_eq_true g3
    subst hn
    refine ⟨_, σ, h5, fun ρ cs w R hB hvs hr hR => ?_⟩
    cases hvs with
    | cons hx hvs =>
      cases hvs with
      | cons hy hvs =>
        cases hvs
        rw [hy.asI]
        cases hx with
        | z hz =>
          refine callWp_mono (hf w) ?_
          rintro v w' ⟨rfl, rfl⟩
          exact hR ρ _ w (Ext.refl _ _) (.i _ _) hr (Below.refl B w) hB
  · cases h
def ovZ (f0 j c r : Nat) (ov : Over) : Over := fun f => if Nat.beq f f0 then some (zAns j c r) else ov f
theorem ovZ_ok {f0 j c r : Nat} {ov : Over} (hf : ∀ w, callWp P f0 #[.int .i64 (ez (ev j)), .int .i64 (c : Int)] w fun v w' => v = .int .i64 (r : Int) ∧ w = w') (hov : OvOk P ev B ov) : OvOk P ev B (ovZ f0 j c r ov) := fun f g hg vs σ k h => by
  unfold ovZ at hg
  split at hg
  · rename_i e
    have := Nat.eq_of_beq_eq_true e
    subst this
    cases hg
    exact zAns_ok hf h
  · exact hov f g hg vs σ k h
def isT (v : AV) (_ : Heap) : Bool := asB v fun b => b
def rho0 : Ren := fun _ => none
/-- What the reckoner says of a law. -/
theorem law_of {ov : Over} {dep fuel n f : Nat} {vs : List AV} (hm : P.follows .mixedOrders = true) (hn : namesOk P = true) (hov : ∀ B, OvOk P ev B ov) {fn : Func} {c : Code} (hf : P.funcs[f]? = some fn) (hb : fn.body = some c) (h : callK P ov dep fuel n f vs heap0 isT = true)
    {cs : List Value} (hv : VRs ev rho0 vs cs) (W : World) : Calls P f cs.toArray W fun e W' => e = .returned (.bool true) ∧ Below W.heap.size W W' := by
  obtain ⟨v, σ', h1, h2⟩ := call_ok (ev := ev) (B := W.heap.size) hm hn (hov _) n f vs heap0 isT h
  obtain ⟨b, rfl, h3⟩ := asB_inv h1
  subst h3
  have h4 := h2 rho0 cs W (fun v w' => v = .bool true ∧ Below W.heap.size W w') (Nat.le_refl _) hv ⟨fun _ _ h => (nomatch h), fun _ _ _ _ h => (nomatch h), fun _ _ _ _ _ _ _ h => (nomatch h)⟩ fun ρ' cv w' _ hv' _ hb' _ => ⟨hv'.asB, hb'⟩
  have hname : (fn.name == "runtime.NumGoroutine") = false := by
    have := List.all_eq_true.1 hn fn (List.mem_of_getElem? (by rw [Array.getElem?_toList]; exact hf))
    rw [hb] at this
    simpa using this
  have hrun : (callFunc f cs.toArray).run P W = .ok (.enter f cs.toArray) W := by
    simp [callFunc, hf, hb]
    simpa using hname
  unfold callWp at h4
  rw [hrun] at h4
  refine Calls.mono h4 fun e w'' he => ?_
  cases e with
  | returned v => obtain ⟨rfl, hb'⟩ := he; exact ⟨rfl, hb'⟩
  | panicked _ => exact he.elim
  | outgrown => exact he.elim
end
end Go.Rk
