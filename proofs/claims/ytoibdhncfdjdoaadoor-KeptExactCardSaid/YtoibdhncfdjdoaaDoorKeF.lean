/-
  What was said last: Match; they wake.
-/
import Derived.Test.YtoibdhncfdjdoaaDoorKeE
namespace Go.Proofs.YtoibdhncfdjdoaaDoor
open Go.RowKit Go.Lib
theorem matchV (f t : ByteArray) (w : World) (hf : f.size < 1000000) (ht : t.size < 1000000) (hE : Env w) :
    Calls Tryd.prog 48 #[.string f, .string t] w fun e w' => e = .returned (.tuple #[.bool (matchB f.data.toList t.data.toList), errN (filtB f.data.toList && nameB t.data.toList)]) ∧ Below w.heap.size w w' := by
  have := match_any f.data.toList t.data.toList w (by rw [← Lib.size_eq]; exact hf) (by rw [← Lib.size_eq]; exact ht) hE.1 hE.2
  rw [Lib.mk_data, Lib.mk_data] at this
  exact this
/-- Those whose topic the filter matches. -/
def hitB (f : ByteArray) (x : EMessage) : Bool := matchB f.data.toList x.t.data.toList
def matchR (L : List EMessage) (f : ByteArray) : List EMessage × Int :=
  if (keptB L && filtB f.data.toList) = true then (L.filter (hitB f), 0) else ([], 1)
set_option maxRecDepth 100000 in
set_option maxHeartbeats 4000000 in
theorem match_kept (v : Value) (L : List EMessage) (f : ByteArray) (w : World) (hE : Env w) (hv : SlOf w 4 EMessage.At v L) (hs : ∀ y ∈ L, y.t.size < 1000000) (hf : f.size < 1000000) (hl : L.length ≤ 1000000) :
    Calls Tryd.prog 33 #[v, .string f] w fun e w' => ∃ v', e = .returned (.tuple #[v', .int .i64 (matchR L f).2]) ∧ MsOwn w' w.heap.size v' (matchR L f).1 ∧ Below w.heap.size w w' := by
  obtain ⟨R, hR⟩ : ∃ R, matchR L f = R := ⟨_, rfl⟩
  rw [hR]
  obtain ⟨i0, hi0, hz0, hz1, hz2⟩ := info_parts infoMessage
  have HE := Lib.hid hE
  have HS := Lib.hid hs
  obtain ⟨ao, cap, rfl, -, -, -, hB⟩ := id hv
  have HB := Lib.hid hB
  have CC := Lib.hid (check_any (.slice ao L.length cap) L w hE hv hs hl)
  have CN := Lib.hid (fun W (hb : Below w.heap.size w W) => filtV f W hf (HE.out.below hb))
  clear hE hv hs hB
  unfold matchR at hR
  cases hS : keptB L with
  | false =>
    rw [hS] at hR CC
    subst hR
    have C1 := Lib.hid (show Calls Tryd.prog 30 #[.slice ao L.length cap] w fun e w' => e = .returned (.int .i64 1) ∧ Below w.heap.size w w' from CC.out)
    clear CC hS CN
    go_enter Tryd.func33, Tryd.ntmps33
    go_wp2_with fail
    (with_reducible refine C1.out.mono ?_)
    rintro e W2 ⟨rfl, hb2⟩
    go_wp2
    go_ret2
    exact ⟨_, rfl, MsOwn.nil _ _, hb2⟩
  | true =>
    rw [hS] at hR CC
    obtain ⟨h16, -⟩ := kept_parts hS
    have C1 := Lib.hid (show Calls Tryd.prog 30 #[.slice ao L.length cap] w fun e w' => e = .returned (.int .i64 0) ∧ Below w.heap.size w w' from CC.out)
    clear CC hS
    cases hN : filtB f.data.toList with
    | false =>
      rw [hN] at hR
      subst hR
      have C2 := Lib.hid (show ∀ W (hb : Below w.heap.size w W), Calls Tryd.prog 54 #[.string f] W fun e w' => e = .returned (.int .i64 1) ∧ Below W.heap.size W w' from fun W hb => by have := CN.out W hb; rw [hN] at this; exact this)
      clear CN hN
      go_enter Tryd.func33, Tryd.ntmps33
      go_wp2_with fail
      (with_reducible refine C1.out.mono ?_)
      rintro e W2 ⟨rfl, hb2⟩
      go_wp2_with fail
      (with_reducible refine (C2.out W2 hb2).mono ?_)
      rintro e W3 ⟨rfl, hb3⟩
      go_wp2
      go_ret2
      exact ⟨_, rfl, MsOwn.nil _ _, hb2.trans (hb3.mono hb2.size)⟩
    | true =>
      rw [hN] at hR
      have C2 := Lib.hid (show ∀ W (hb : Below w.heap.size w W), Calls Tryd.prog 54 #[.string f] W fun e w' => e = .returned (.int .i64 0) ∧ Below W.heap.size W w' from fun W hb => by have := CN.out W hb; rw [hN] at this; exact this)
      clear CN hN
      have HR := Lib.hid (show (L.filter (hitB f), (0 : Int)) = R by rw [← hR]; rfl)
      clear hR
      go_enter Tryd.func33, Tryd.ntmps33
      go_wp2_with fail
      (with_reducible refine C1.out.mono ?_)
      rintro e W2 ⟨rfl, hb2⟩
      have HB2 := Lib.hid hb2
      clear hb2 C1
      go_wp2_with fail
      (with_reducible refine (C2.out W2 HB2.out).mono ?_)
      rintro e W3 ⟨rfl, hb3⟩
      have HB3 := Lib.hid (HB2.out.trans (hb3.mono HB2.out.size))
      clear hb3 HB2 C2
      go_wp2
      go_loopw [6, 21] (fun vs i wr => ∃ (k : Nat) (vo : Value), k ≤ L.length ∧ i = .int .i64 k ∧ vo = vs ∧ Below w.heap.size w wr ∧ MsOwn wr w.heap.size vo ((L.take k).filter (hitB f))) (fun _ i _ => L.length - (RowKit.intOf i).toNat)
      case atStart => exact ⟨0, _, by omega, rfl, rfl, HB3.out, MsOwn.nil _ _⟩
      case round =>
        obtain ⟨k, vo, hk, rfl, rfl, hb, ho⟩ := hrel
        have HW := Lib.hid hb
        have HO := Lib.hid ho
        clear hb ho
        by_cases hlt : k < L.length
        · have hltz : (k : Int) < (L.length : Int) := by omega
          obtain ⟨bk, off, rfl, hbk, hBB⟩ := HB.out (by intro h; simp [h] at hlt)
          obtain ⟨x, hq⟩ : ∃ x, L[k]? = some x := ⟨_, List.getElem?_eq_getElem hlt⟩
          have hsx := HS.out x (List.mem_of_getElem? hq)
          obtain ⟨c0, c1, c2, c3⟩ := hBB _ x hq
          have d0 := (HW.out.cell (p := ⟨bk, off + k * 4, none⟩) hbk).trans c0
          have d1 := (HW.out.cell (p := ⟨bk, off + k * 4 + 1, none⟩) hbk).trans c1
          have d2 := (HW.out.cell (p := ⟨bk, off + k * 4 + 2, none⟩) hbk).trans c2
          have d3 := (HW.out.cell (p := ⟨bk, off + k * 4 + 3, none⟩) hbk).trans c3
          have htake : (L.take (k + 1)).filter (hitB f) = (L.take k).filter (hitB f) ++ (if hitB f x then [x] else []) := by
            rw [List.take_add_one, hq, Option.toList_some, List.filter_append]
            congr 1
            cases hh : hitB f x <;> simp [hh]
          have hlenF : ((L.take k).filter (hitB f)).length ≤ 16 := by
            have h1 := List.length_filter_le (hitB f) (L.take k)
            rw [List.length_take] at h1
            omega
          clear c0 c1 c2 c3 hBB hq
          have CM := Lib.hid (fun W (hb : Below w.heap.size w W) => matchV f x.t W hf hsx (HE.out.below hb))
          generalize hE2 : errN (filtB f.data.toList && nameB x.t.data.toList) = E2 at CM
          clear hE2
          cases hM : matchB f.data.toList x.t.data.toList with
          | false =>
            rw [show hitB f x = false from hM, if_neg Bool.false_ne_true, List.append_nil] at htake
            rw [hM] at CM
            have HT := Lib.hid htake
            clear hM htake
            go_wp2_with fail
            refine calls_gen (fun W => Below w.heap.size w W ∧ MsOwn W w.heap.size vo ((L.take k).filter (hitB f))) ⟨HW.out.alloc HW.out.size _, HO.out.below ((Below.refl _ _).alloc (Nat.le_refl _) _)⟩ ?_
            rintro W5 ⟨hb5, ho5⟩
            (with_reducible refine (CM.out W5 hb5).mono ?_)
            rintro e W6 ⟨rfl, hb6⟩
            have HB6 := Lib.hid (hb5.trans (hb6.mono hb5.size))
            have HO6 := Lib.hid (ho5.below hb6)
            clear hb5 hb6 ho5 d0 d1 d2 d3
            go_wp2
            go_roundw
            case rel => exact ⟨k + 1, _, by omega, by go_num, rfl, HB6.out, by rw [HT.out]; exact HO6.out⟩
            case measure => simp [RowKit.intOf]; omega
          | true =>
            rw [show hitB f x = true from hM, if_pos rfl] at htake
            rw [hM] at CM
            have HT := Lib.hid htake
            clear hM htake
            go_wp2_with fail
            refine calls_gen (fun W => Below w.heap.size w W ∧ MsOwn W w.heap.size vo ((L.take k).filter (hitB f)) ∧ MxAt W wr.heap.size x) ⟨HW.out.alloc HW.out.size _, HO.out.below ((Below.refl _ _).alloc (Nat.le_refl _) _), by simp [go_sem], by simp [go_sem], by simp [go_sem], by simp [go_sem], by simp⟩ ?_
            rintro W5 ⟨hb5, ho5, hx5⟩
            obtain ⟨q0, hq0e⟩ : ∃ q, q = wr.heap.size := ⟨_, rfl⟩
            rw [← hq0e] at hx5 ⊢
            clear hq0e
            (with_reducible refine (CM.out W5 hb5).mono ?_)
            rintro e W6 ⟨rfl, hb6⟩
            have HB6 := Lib.hid (hb5.trans (hb6.mono hb5.size))
            have ho6 := ho5.below hb6
            obtain ⟨e0, e1, e2, e3, elt⟩ := hx5.below hb6
            clear hb5 hb6 ho5 d0 d1 d2 d3 hx5
            have hsz6 := HB6.out.size
            unfold MsOwn at ho6
            go_wp2_with (first
              | (at_builtin; refine wpList_append_own _ rfl _ _ 53 rfl w.heap.size 60 i0 (.agg #[.string ByteArray.empty, .string ByteArray.empty, .int .i64 0, .bool false]) 4 48 Tryd.underlying53 hi0 hz0 hz1 hz2 rfl (by decide) _ _ _ rfl (ho6.alloc _) ⟨W6.heap.size, 0, none⟩ 1 1 (rowMessage x) rfl rfl ?c1 ?c2 ?c3 ?c4 ?c5 ?_))
            case c1 =>
              intro j u hj
              match j, hj with
              | 0, hj => simp at hj; subst hj; simp [Addr.add]
              | 1, hj => simp at hj; subst hj; simp [Addr.add]
              | 2, hj => simp at hj; subst hj; simp [Addr.add]
              | 3, hj => simp at hj; subst hj; simp [Addr.add]
              | j + 4, hj => simp at hj
            case c2 => intro u hu; simp at hu; rcases hu with rfl | rfl | rfl | rfl <;> rfl
            case c3 => unfold maxLen; omega
            case c4 => omega
            case c5 => simp; omega
            intro v' w1 hown' hgrow _
            have hb2 : Below w.heap.size w w1 := (HB6.out.alloc hsz6 _).grown hgrow (by simp; omega) (by intro k hk; exact (ho6.lt k hk).1)
            have ho2 : MsOwn w1 w.heap.size v' ((L.take (k + 1)).filter (hitB f)) := by
              rw [HT.out]
              unfold MsOwn
              rw [List.length_append, List.map_append, List.flatten_append]
              simpa using hown'
            have HB9 := Lib.hid hb2
            have HO9 := Lib.hid ho2
            clear hown' hgrow ho6 hb2 ho2
            go_wp2
            go_roundw
            case rel => exact ⟨k + 1, _, by omega, by go_num, rfl, HB9.out, HO9.out⟩
            case measure => simp [RowKit.intOf]; omega
        · obtain rfl : k = L.length := by omega
          have ho := HO.out
          rw [List.take_length] at ho
          have HO2 := Lib.hid ho
          clear ho HO
          go_wp2
          go_ret2
          exact ⟨_, by rw [← HR.out]; rfl, by rw [← HR.out]; exact HO2.out, HW.out⟩
theorem num22_any (x : Int) (w : World) (h0 : 0 ≤ x) (h1 : x ≤ 5) :
    Calls Tryd.prog 29 #[.int .i64 x] w fun e w' => e = .returned (.int .i64 x) ∧ w = w' := by
  have hw : IntKind.i64.wrap x = x := wrap_i64 x (by omega) (by omega)
  go_enter Tryd.func29, Tryd.ntmps29
  go_wp2
  go_ret
  exact ⟨rfl, rfl⟩
end Go.Proofs.YtoibdhncfdjdoaaDoor
