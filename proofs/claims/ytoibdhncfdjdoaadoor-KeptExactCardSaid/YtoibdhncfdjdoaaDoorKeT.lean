/-
  What is kept: what KeptExact asks besides: spoiling, copies, comparing.
-/
import Derived.Test.YtoibdhncfdjdoaaDoorKeM
import Derived.Test.YtoibdhncfdjdoaaDoorWithin
namespace Go.Proofs.YtoibdhncfdjdoaaDoor
open Go.RowKit Go.Lib
theorem flat_setM (x : EMessage) : ∀ (L : List EMessage) (i : Nat), i < L.length → ((L.set i x).map rowMessage).flatten = (((((L.map rowMessage).flatten).set (i * 4) (.string x.t)).set (i * 4 + 1) (.string x.p)).set (i * 4 + 2) (.int .i64 x.q)).set (i * 4 + 3) (.bool x.r) := by
  intro L
  induction L with
  | nil => intro i hi; simp at hi
  | cons q r ih =>
    intro i hi
    cases i with
    | zero => rfl
    | succ i =>
      rw [List.set_cons_succ, List.map_cons, List.flatten_cons, ih i (by simpa using hi), List.map_cons, List.flatten_cons, show (i + 1) * 4 = i * 4 + 1 + 1 + 1 + 1 by omega]
      rfl
theorem MsOwn.set {w : World} {base g cap n : Nat} {L : List EMessage} (hn : n = L.length) (h : MsOwn w base (.slice (some ⟨g, 0, none⟩) n cap) L) (i : Nat) (hi : i < L.length) (x : EMessage) :
    MsOwn ((((w.setCell ⟨g, i * 4, none⟩ (.string x.t)).setCell ⟨g, i * 4 + 1, none⟩ (.string x.p)).setCell ⟨g, i * 4 + 2, none⟩ (.int .i64 x.q)).setCell ⟨g, i * 4 + 3, none⟩ (.bool x.r)) base (.slice (some ⟨g, 0, none⟩) n cap) (L.set i x) := by
  subst hn
  unfold MsOwn at *
  rw [List.length_set, flat_setM x L i hi]
  obtain ⟨h1, h2⟩ := h
  rcases h2 with ⟨h2, -⟩ | ⟨g2, cap2, cur, hv, hb, hg, hle, hcm, hcs, ht⟩
  · cases h2
  · injection hv with hv1 hv2 hv3
    injection hv1 with hv1
    injection hv1 with hv1
    subst hv1 hv3
    refine ⟨by simpa using h1, .inr ⟨g, cap, (((cur.setIfInBounds (i * 4) (.string x.t)).setIfInBounds (i * 4 + 1) (.string x.p)).setIfInBounds (i * 4 + 2) (.int .i64 x.q)).setIfInBounds (i * 4 + 3) (.bool x.r), rfl, hb, ?_, hle, hcm, by simpa using hcs, ?_⟩⟩
    · have a1 := setRow_heap w g cur (cur.setIfInBounds (i * 4) (.string x.t)) _ _ hg
      rw [setCell_eq_setRow w g (i * 4) cur _ _ _ hg]
      rw [setCell_eq_setRow _ g (i * 4 + 1) _ _ _ _ a1]
      have a2 := setRow_heap _ g _ ((cur.setIfInBounds (i * 4) (.string x.t)).setIfInBounds (i * 4 + 1) (.string x.p)) _ _ a1
      rw [setCell_eq_setRow _ g (i * 4 + 2) _ _ _ _ a2]
      have a3 := setRow_heap _ g _ (((cur.setIfInBounds (i * 4) (.string x.t)).setIfInBounds (i * 4 + 1) (.string x.p)).setIfInBounds (i * 4 + 2) (.int .i64 x.q)) _ _ a2
      rw [setCell_eq_setRow _ g (i * 4 + 3) _ _ _ _ a3]
      exact setRow_heap _ g _ _ _ _ a3
    · simp only [Array.toList_setIfInBounds]
      rw [List.take_set, List.take_set, List.take_set, List.take_set, ht]
theorem newsM_alloc (W : World) (x : EMessage) : ∀ j u, (rowMessage x)[j]? = some u → (W.alloc (.cells #[.string x.t, .string x.p, .int .i64 x.q, .bool x.r] 60)).cell? ((⟨W.heap.size, 0, none⟩ : Addr).add j) = some u := by
  intro j u hj
  match j, hj with
  | 0, hj => simp at hj; subst hj; simp [Addr.add, go_sem]
  | 1, hj => simp at hj; subst hj; simp [Addr.add, go_sem]
  | 2, hj => simp at hj; subst hj; simp [Addr.add, go_sem]
  | 3, hj => simp at hj; subst hj; simp [Addr.add, go_sem]
  | j + 4, hj => simp at hj
theorem eqMs_same (v1 v2 : Value) (L : List EMessage) (w : World) (hl : L.length ≤ 1000000) (h1 : SlR w 4 v1 (L.map rowMessage)) (h2 : SlR w 4 v2 (L.map rowMessage)) :
    Calls Tryd.prog 34 #[v1, v2] w fun e w' => e = .returned (.bool true) ∧ Below w.heap.size w w' := by
  refine (eqMessages_any v1 v2 L L w hl hl h1 h2).mono ?_
  rintro e w' ⟨rfl, m, rfl⟩
  exact ⟨by simp, bdrew (Below.refl _ _) m⟩
theorem copyMs_any (v : Value) (L : List EMessage) (w : World) (hl : L.length ≤ 1000000) (h : SlR w 4 v (L.map rowMessage)) :
    Calls Tryd.prog 27 #[v] w fun e w' => ∃ v', e = .returned v' ∧ MsOwn w' w.heap.size v' L ∧ Below w.heap.size w w' := by
  refine (copyMessages_any v L w hl h).mono ?_
  rintro e w' ⟨v', rfl, hb, ho⟩
  exact ⟨v', rfl, ho, hb⟩
theorem SlR.nilMs (w : World) : SlR w 4 (.slice none 0 0) (([] : List EMessage).map rowMessage) := SlR.nil w 4
def msQ : EMessage := ⟨⟨#[63]⟩, ByteArray.empty, 0, false⟩
set_option maxRecDepth 100000 in
set_option maxHeartbeats 2000000 in
theorem spoilMs_any (base : Nat) (v : Value) (L : List EMessage) (w : World) (hown : MsOwn w base v L) (hbase : base ≤ w.heap.size) (hl : L.length ≤ 1000) :
    Calls Tryd.prog 35 #[v] w fun e w' => e = .returned (.tuple #[]) ∧ Below base w w' := by
  obtain ⟨i0, hi, hz0, hz1, hz2⟩ := info_parts infoMessage
  obtain ⟨ao, cap, rfl⟩ := own_slice hown
  go_enter Tryd.func35, Tryd.ntmps35
  go_wp2
  go_loopw [2] (fun i wr => ∃ (k : Nat) (X : List EMessage), k ≤ L.length ∧ i = .int .i64 k ∧ Below base w wr ∧ X.length = L.length ∧ MsOwn wr base (.slice ao L.length cap) X) (fun i _ => L.length - (RowKit.intOf i).toNat)
  case atStart => exact ⟨0, L, by omega, rfl, Below.refl _ _, rfl, hown⟩
  case round =>
    obtain ⟨k, X, hk, rfl, hbl, hX, ho⟩ := hrel
    have HO := Lib.hid ho
    have HX := Lib.hid hX
    have hsz := hbl.size
    clear hown hX
    by_cases hlt : k < L.length
    · obtain ⟨-, ⟨hv, -⟩ | ⟨g, cap2, cur, hv, hbg, hg, hnc, hcm, hcs, htake⟩⟩ := id ho
      · injection hv with h1 h2; omega
      · injection hv with h1 h2 h3
        subst h1 h3
        have HX' := HX.out
        have hin : ∀ j, j < 4 → ∃ u, wr.cell? ⟨g, k * 4 + j, none⟩ = some u := fun j hj => by
          rw [cell_of_row wr g (k * 4 + j) cur _ _ hg]
          exact ⟨_, Array.getElem?_eq_getElem (by omega)⟩
        obtain ⟨u0, d0⟩ := hin 0 (by decide)
        obtain ⟨u1, d1⟩ := hin 1 (by decide)
        obtain ⟨u2, d2⟩ := hin 2 (by decide)
        obtain ⟨u3, d3⟩ := hin 3 (by decide)
        have f0 : ∀ k, wr.frozen? ⟨g, k, none⟩ = false := fun k => by simp [World.frozen?, hg]
        have e0 := f0 (k * 4)
        have e1 := f0 (k * 4 + 1)
        have e2 := f0 (k * 4 + 2)
        have e3 := f0 (k * 4 + 3)
        have hkX : k < X.length := by omega
        have HS := Lib.hid (HO.out.set HX.out.symm k hkX msQ)
        clear hin htake hg f0 ho HX'
        simp only [Nat.add_zero] at d0
        go_wp2
        go_roundw
        case rel => exact ⟨k + 1, X.set k msQ, by omega, by go_num, ((((hbl.setCell (p := ⟨g, _, none⟩) hbg _).setCell (p := ⟨g, _, none⟩) hbg _).setCell (p := ⟨g, _, none⟩) hbg _).setCell (p := ⟨g, _, none⟩) hbg _), by rw [List.length_set, HX.out], HS.out⟩
        case measure => simp [RowKit.intOf]; omega
    · unfold MsOwn at ho
      rw [HX.out] at ho
      go_wp2_with (at_builtin; refine wpList_append_at _ rfl _ _ 53 rfl base 60 i0 (.agg #[.string ByteArray.empty, .string ByteArray.empty, .int .i64 0, .bool false]) 4 48 Tryd.underlying53 hi hz0 hz1 hz2 rfl (by decide) _ _ _ rfl (World.ownsRow.alloc ho _) ⟨wr.heap.size, 0, none⟩ 1 1 (rowMessage ⟨ByteArray.empty, ByteArray.empty, 0, false⟩) rfl rfl (newsM_alloc _ ⟨ByteArray.empty, ByteArray.empty, 0, false⟩) (by intro u hu; simp at hu; rcases hu with rfl | rfl | rfl <;> rfl) (by unfold maxLen; omega) (by omega) (by simp; omega) ?_)
      intro v' w1 hown' hgrow hat
      go_wp2
      refine bodyPost_end (v := .tuple #[]) (by simp [results, Tryd.results35]) rfl ⟨rfl, ?_⟩
      have hgr : Grew wr w1 (.slice ao L.length cap) v' := (Grew.refl _ _).app hgrow hat
      exact hbl.trans (grew_below hgr (Nat.le_trans hbase hsz) (fun k hk => (World.ownsRow.lt ho k hk).1))
end Go.Proofs.YtoibdhncfdjdoaaDoor
