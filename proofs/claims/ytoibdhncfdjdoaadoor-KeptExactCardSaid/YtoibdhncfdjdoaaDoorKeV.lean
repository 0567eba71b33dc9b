/-
  What is kept: the reference's Find.
-/
import Derived.Test.YtoibdhncfdjdoaaDoorKeT

namespace Go.Proofs.YtoibdhncfdjdoaaDoor
open Go.RowKit Go.Lib
set_option maxRecDepth 100000 in
set_option maxHeartbeats 4000000 in
theorem rmatch_ok (f t : ByteArray) (w : World) (hf : f.size < 1000000) (ht : t.size < 1000000) (hX : filtB f.data.toList = true) (hY : nameB t.data.toList = true) :
    Calls Tryd.prog 46 #[.string f, .string t] w fun e w' => e = .returned (.bool (matchB f.data.toList t.data.toList)) ∧ Below w.heap.size w w' := by
  have e1 : f = ⟨f.data.toList.toArray⟩ := by cases f; simp
  have e2 : t = ⟨t.data.toList.toArray⟩ := by cases t; simp
  have hf' : f.data.toList.length < 1000000 := by rw [← Lib.size_eq]; exact hf
  have ht' : t.data.toList.length < 1000000 := by rw [← Lib.size_eq]; exact ht
  rw [show (Value.string f) = .string ⟨f.data.toList.toArray⟩ from congrArg Value.string e1, show (Value.string t) = .string ⟨t.data.toList.toArray⟩ from congrArg Value.string e2]
  unfold matchB
  rw [hX, hY]
  obtain ⟨a, f', hfa, -⟩ := textB_ne (show textB f.data.toList = true by unfold filtB at hX; exact (Bool.and_eq_true _ _ ▸ hX).1)
  obtain ⟨b, t', htb, -⟩ := textB_ne (show textB t.data.toList = true by unfold nameB at hY; exact (Bool.and_eq_true _ _ ▸ hY).1)
  rw [hfa] at hf' ⊢
  rw [htb] at ht' ⊢
  cases hD : doll (a :: f') (b :: t') with
  | true => exact rmatch_doll a b f' t' w hD
  | false =>
    have := rmatch_any a b f' t' w hf' ht' hD
    exact this
theorem msown_snoc {w : World} {base n : Nat} {v : Value} {A : List EMessage} {x : EMessage} (hn : n = A.length + 1) (h : w.ownsRow base 60 4 v n ((A.map rowMessage).flatten ++ [Value.string x.t, Value.string x.p, Value.int .i64 x.q, Value.bool x.r])) : MsOwn w base v (A ++ [x]) := by
  subst hn
  unfold MsOwn
  have e : ((A ++ [x]).map rowMessage).flatten = (A.map rowMessage).flatten ++ rowMessage x := by rw [List.map_append, List.map_cons, List.map_nil, List.flatten_append, List.flatten_cons, List.flatten_nil, List.append_nil]
  rw [e, List.length_append]
  exact h
set_option maxRecDepth 100000 in
set_option maxHeartbeats 4000000 in
theorem rfind_any (v : Value) (L : List EMessage) (t : ByteArray) (w : World) (hv : SlOf w 4 EMessage.At v L) (hN : ∀ x ∈ L, nameB x.t.data.toList = true) (hs : ∀ x ∈ L, x.t.size < 1000000) (ht : t.size < 1000000) (hF : filtB t.data.toList = true) (hl : L.length ≤ 1000) :
    Calls Tryd.prog 32 #[v, .string t] w fun e w' => ∃ v', e = .returned v' ∧ MsOwn w' w.heap.size v' (L.filter (hitB t)) ∧ Below w.heap.size w w' := by
  obtain ⟨i0, hi0, hz0, hz1, hz2⟩ := info_parts infoMessage
  obtain ⟨ao, cap, rfl, hlc, hlm, hnone, hB⟩ := hv
  have HB := Lib.hid hB
  clear hB hnone
  go_enter Tryd.func32, Tryd.ntmps32
  go_wp2
  go_loopw [5, 6] (fun vm vi wr => ∃ (i : Nat) (A : List EMessage), i ≤ L.length ∧ vi = .int .i64 i ∧ A = (L.take i).filter (hitB t) ∧ MsOwn wr w.heap.size vm A ∧ Below w.heap.size w wr) (fun _ i _ => L.length - (RowKit.intOf i).toNat)
  case atStart => exact ⟨0, [], by omega, rfl, rfl, MsOwn.nil _ _, Below.refl _ _⟩
  case round =>
    obtain ⟨i, A, hi, rfl, hA, hO, hb⟩ := hrel
    have hAl : A.length ≤ i := by rw [hA]; exact Nat.le_trans (List.length_filter_le _ _) (by rw [List.length_take]; omega)
    have HW := Lib.hid hb
    have HA := Lib.hid hA
    have HO := Lib.hid hO
    obtain ⟨am, cm, rfl⟩ := own_slice hO
    clear hb hA hO
    by_cases hlt : i < L.length
    · have hltz : (i : Int) < (L.length : Int) := by omega
      obtain ⟨b, off, rfl, hbk, hBB⟩ := HB.out (by intro h; simp [h] at hlt)
      obtain ⟨y, hy⟩ : ∃ y, L[i]? = some y := ⟨_, List.getElem?_eq_getElem hlt⟩
      obtain ⟨c0, c1, c2, c3⟩ := hBB _ y hy
      have d0 := (HW.out.cell (p := ⟨b, off + i * 4, none⟩) hbk).trans c0
      have d1 := (HW.out.cell (p := ⟨b, off + i * 4 + 1, none⟩) hbk).trans c1
      have d2 := (HW.out.cell (p := ⟨b, off + i * 4 + 2, none⟩) hbk).trans c2
      have d3 := (HW.out.cell (p := ⟨b, off + i * 4 + 3, none⟩) hbk).trans c3
      have hst : (L.take (i + 1)).filter (hitB t) = (L.take i).filter (hitB t) ++ if hitB t y = true then [y] else [] := by rw [List.take_add_one, hy, Option.toList_some, List.filter_append]; cases h : hitB t y <;> simp [h]
      have CM := Lib.hid (fun W => rmatch_ok t y.t W ht (hs y (List.mem_of_getElem? hy)) hF (hN y (List.mem_of_getElem? hy)))
      clear hBB c0 c1 c2 c3 hy
      cases hey : hitB t y with
      | false =>
        have hM : matchB t.data.toList y.t.data.toList = false := hey
        rw [hM] at CM
        rw [hey, if_neg Bool.false_ne_true, List.append_nil, ← HA.out] at hst
        have HST := Lib.hid hst
        clear hst hM hey
        go_wp2_with fail
        (with_reducible refine (CM.out _).mono ?_)
        rintro e w4 ⟨rfl, hb4⟩
        have HW4 := Lib.hid (HW.out.trans (hb4.mono HW.out.size))
        have HO4 := Lib.hid (HO.out.below hb4)
        have e0 := (hb4.cell (p := ⟨b, off + i * 4, none⟩) (Nat.lt_of_lt_of_le hbk HW.out.size)).trans d0
        have e1 := (hb4.cell (p := ⟨b, off + i * 4 + 1, none⟩) (Nat.lt_of_lt_of_le hbk HW.out.size)).trans d1
        have e2 := (hb4.cell (p := ⟨b, off + i * 4 + 2, none⟩) (Nat.lt_of_lt_of_le hbk HW.out.size)).trans d2
        have e3 := (hb4.cell (p := ⟨b, off + i * 4 + 3, none⟩) (Nat.lt_of_lt_of_le hbk HW.out.size)).trans d3
        clear hb4 d0 d1 d2 d3 CM
        go_wp2_with fail
        go_roundw
        case rel => exact ⟨i + 1, A, by omega, by go_num, HST.out.symm, HO4.out, HW4.out⟩
        case measure => simp [RowKit.intOf]; omega
      | true =>
        have hM : matchB t.data.toList y.t.data.toList = true := hey
        rw [hM] at CM
        rw [hey, if_pos rfl, ← HA.out] at hst
        have HST := Lib.hid hst
        clear hM hey
        go_wp2_with fail
        (with_reducible refine (CM.out _).mono ?_)
        rintro e w4 ⟨rfl, hb4⟩
        have HW4 := Lib.hid (HW.out.trans (hb4.mono HW.out.size))
        have HO4 := Lib.hid (HO.out.below hb4)
        have e0 := (hb4.cell (p := ⟨b, off + i * 4, none⟩) (Nat.lt_of_lt_of_le hbk HW.out.size)).trans d0
        have e1 := (hb4.cell (p := ⟨b, off + i * 4 + 1, none⟩) (Nat.lt_of_lt_of_le hbk HW.out.size)).trans d1
        have e2 := (hb4.cell (p := ⟨b, off + i * 4 + 2, none⟩) (Nat.lt_of_lt_of_le hbk HW.out.size)).trans d2
        have e3 := (hb4.cell (p := ⟨b, off + i * 4 + 3, none⟩) (Nat.lt_of_lt_of_le hbk HW.out.size)).trans d3
        clear hb4 d0 d1 d2 d3 CM
        have hrow1 : ∀ u ∈ rowMessage y, u.oneCell' = true := by intro u hu; simp at hu; rcases hu with rfl | rfl | rfl | rfl <;> rfl
        have HR1 := Lib.hid hrow1
        have HNA := Lib.hid (newsM_alloc w4 y)
        have HOA := Lib.hid (World.ownsRow.alloc HO4.out (Obj.cells #[.string y.t, .string y.p, .int .i64 y.q, .bool y.r] 60))
        have HBA := Lib.hid (HW4.out.alloc HW4.out.size (Obj.cells #[.string y.t, .string y.p, .int .i64 y.q, .bool y.r] 60))
        clear hst hrow1
        go_wp2_with (first | (at_builtin; refine wpList_append_at _ rfl _ _ 53 rfl w.heap.size 60 i0 (.agg #[.string ByteArray.empty, .string ByteArray.empty, .int .i64 0, .bool false]) 4 48 Tryd.underlying53 hi0 hz0 hz1 hz2 rfl (by decide) _ _ _ rfl HOA.out ⟨w4.heap.size, 0, none⟩ 1 1 (rowMessage y) rfl rfl HNA.out HR1.out (by unfold maxLen; omega) (by omega) HBA.out.size ?_))
        intro v' w1 hown' hgrow hat
        have HB11 := Lib.hid (HBA.out.grown hgrow HBA.out.size (by intro k hk; exact (HOA.out.lt k hk).1))
        have HO11 := Lib.hid hown'
        clear hown' hgrow hat
        go_wp2
        go_roundw
        case rel => exact ⟨i + 1, A ++ [y], by omega, by go_num, HST.out.symm, msown_snoc rfl HO11.out, HB11.out⟩
        case measure => simp [RowKit.intOf]; omega
    · have hltz : ¬ (i : Int) < (L.length : Int) := by omega
      have HIL := Lib.hid (show i = L.length by omega)
      have HAe := Lib.hid (show L.filter (hitB t) = A by rw [HA.out, HIL.out, List.take_length])
      go_wp2
      go_ret
      exact ⟨_, rfl, by rw [HAe.out]; exact HO.out, HW.out⟩
end Go.Proofs.YtoibdhncfdjdoaaDoor
