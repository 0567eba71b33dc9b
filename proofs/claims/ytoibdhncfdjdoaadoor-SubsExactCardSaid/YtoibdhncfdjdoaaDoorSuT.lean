/-
  Who wants what: what SubsExact asks besides: spoiling, copies, comparing.
-/
import Derived.Test.YtoibdhncfdjdoaaDoorSuS
import Derived.Test.YtoibdhncfdjdoaaDoorWithin
namespace Go.Proofs.YtoibdhncfdjdoaaDoor
open Go.RowKit Go.Lib
theorem eqWs_same (v1 v2 : Value) (L : List EWish) (w : World) (hl : L.length ≤ 1000000) (h1 : SlR w 2 v1 (L.map rowWish)) (h2 : SlR w 2 v2 (L.map rowWish)) :
    Calls Tryd.prog 20 #[v1, v2] w fun e w' => e = .returned (.bool true) ∧ Below w.heap.size w w' := by
  refine (eqWishes_any v1 v2 L L w hl hl h1 h2).mono ?_
  rintro e w' ⟨rfl, m, rfl⟩
  exact ⟨by simp, bdrew (Below.refl _ _) m⟩
theorem copyWs_any (v : Value) (L : List EWish) (w : World) (hl : L.length ≤ 1000000) (h : SlR w 2 v (L.map rowWish)) :
    Calls Tryd.prog 10 #[v] w fun e w' => ∃ v', e = .returned v' ∧ WsOwn w' w.heap.size v' L ∧ Below w.heap.size w w' := by
  refine (copyWishes_any v L w hl h).mono ?_
  rintro e w' ⟨v', rfl, hb, ho⟩
  exact ⟨v', rfl, ho, hb⟩
theorem SlR.nilWs (w : World) : SlR w 2 (.slice none 0 0) (([] : List EWish).map rowWish) := SlR.nil w 2
def wsQ : EWish := ⟨⟨#[63]⟩, 0⟩
set_option maxRecDepth 100000 in
set_option maxHeartbeats 2000000 in
theorem spoilWs_any (base : Nat) (v : Value) (L : List EWish) (w : World) (hown : WsOwn w base v L) (hbase : base ≤ w.heap.size) (hl : L.length ≤ 1000) :
    Calls Tryd.prog 24 #[v] w fun e w' => e = .returned (.tuple #[]) ∧ Below base w w' := by
  obtain ⟨i0, hi, hz0, hz1, hz2⟩ := info_parts infoWish
  obtain ⟨ao, cap, rfl⟩ := own_slice hown
  go_enter Tryd.func24, Tryd.ntmps24
  go_wp2
  go_loopw [2] (fun i wr => ∃ (k : Nat) (X : List EWish), k ≤ L.length ∧ i = .int .i64 k ∧ Below base w wr ∧ X.length = L.length ∧ WsOwn wr base (.slice ao L.length cap) X) (fun i _ => L.length - (RowKit.intOf i).toNat)
  case atStart => exact ⟨0, L, by omega, rfl, Below.refl _ _, rfl, hown⟩
  case round =>
    obtain ⟨k, X, hk, rfl, hbl, hX, ho⟩ := hrel
    have HO := Lib.hid ho
    have HX := Lib.hid hX
    have hsz := hbl.size
    clear hown hX
    by_cases hlt : k < L.length
    · obtain ⟨-, ⟨hv, -⟩ | ⟨g, cap2, cur, hv, hbg, hg, hnc, hcm, hcs, htake⟩⟩ := id ho
      · injection hv with h1 h2; omega
      · injection hv with h1 h2 h3
        subst h1 h3
        have HX' := HX.out
        have hin : ∀ j, j < 2 → ∃ u, wr.cell? ⟨g, k * 2 + j, none⟩ = some u := fun j hj => by
          rw [cell_of_row wr g (k * 2 + j) cur _ _ hg]
          exact ⟨_, Array.getElem?_eq_getElem (by omega)⟩
        obtain ⟨u0, d0⟩ := hin 0 (by decide)
        obtain ⟨u1, d1⟩ := hin 1 (by decide)
        have f0 : ∀ k, wr.frozen? ⟨g, k, none⟩ = false := fun k => by simp [World.frozen?, hg]
        have e0 := f0 (k * 2)
        have e1 := f0 (k * 2 + 1)
        have hkX : k < X.length := by omega
        have HS := Lib.hid (HO.out.set HX.out.symm k hkX wsQ)
        clear hin htake hg f0 ho HX'
        simp only [Nat.add_zero] at d0
        go_wp2
        go_roundw
        case rel => exact ⟨k + 1, X.set k wsQ, by omega, by go_num, ((hbl.setCell (p := ⟨g, _, none⟩) hbg _).setCell (p := ⟨g, _, none⟩) hbg _), by rw [List.length_set, HX.out], HS.out⟩
        case measure => simp [RowKit.intOf]; omega
    · unfold WsOwn at ho
      rw [HX.out] at ho
      go_wp2_with (at_builtin; refine wpList_append_at _ rfl _ _ 22 rfl base 29 i0 (.agg #[.string ByteArray.empty, .int .i64 0]) 2 24 Tryd.underlying22 hi hz0 hz1 hz2 rfl (by decide) _ _ _ rfl (World.ownsRow.alloc ho _) ⟨wr.heap.size, 0, none⟩ 1 1 (rowWish ⟨ByteArray.empty, 0⟩) rfl rfl (news_alloc _ ⟨ByteArray.empty, 0⟩) (by intro u hu; simp at hu; rcases hu with rfl | rfl <;> rfl) (by unfold maxLen; omega) (by omega) (by simp; omega) ?_)
      intro v' w1 hown' hgrow hat
      go_wp2
      refine bodyPost_end (v := .tuple #[]) (by simp [results, Tryd.results24]) rfl ⟨rfl, ?_⟩
      have hgr : Grew wr w1 (.slice ao L.length cap) v' := (Grew.refl _ _).app hgrow hat
      exact hbl.trans (grew_below hgr (Nat.le_trans hbase hsz) (fun k hk => (World.ownsRow.lt ho k hk).1))
end Go.Proofs.YtoibdhncfdjdoaaDoor
