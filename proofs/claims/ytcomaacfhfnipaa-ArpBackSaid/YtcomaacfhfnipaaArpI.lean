/-
  Neighbours: kioskref7.Learn.
-/
import Derived.Test.YtcomaacfhfnipaaArpH
namespace Go.Proofs.Ytcomaacfhfnipaa
open Go.RowKit
theorem learnGo_keep {t m o : Int} {k : Nat} {b : Bool} {L acc : List Nb} {q : Nb} (hq : L[k]? = some q) (h : learnGo t m o 0 false L = acc ++ learnGo t m o k b (L.drop k)) :
    learnGo t m o 0 false L = (acc ++ ((if (!b && decide (t ≤ q.ip)) = true then [newNb t m] else []) ++ (if (k : Int) = o then [] else [q]))) ++ learnGo t m o (k + 1) (b || decide (t ≤ q.ip)) (L.drop (k + 1)) := by
  rw [h, drop_cons hq, learnGo_cons]; simp only [List.append_assoc]
theorem nbOwn_app {w : World} {base : Nat} {v : Value} {A : List Nb} {x : Nb} (h : w.ownsRow base 61 3 v (A.length + 1) ((A.map rowNeighbour).flatten ++ rowNeighbour x)) : NbOwn w base v (A ++ [x]) := by
  unfold NbOwn
  rw [List.length_append, List.map_append, List.flatten_append]
  simpa using h
theorem app_c1 (w : World) (x : Nb) : ∀ j u, (rowNeighbour x)[j]? = some u → (w.alloc (.cells #[.int .i64 x.ip, .int .i64 x.mac, .int .i64 x.age] 61)).cell? ((⟨w.heap.size, 0, none⟩ : Addr).add j) = some u := by
  intro j u hj
  match j, hj with
  | 0, hj => simp at hj; subst hj; simp [Addr.add]
  | 1, hj => simp at hj; subst hj; simp [Addr.add]
  | 2, hj => simp at hj; subst hj; simp [Addr.add]
  | j + 3, hj => simp at hj
theorem app_c2 (x : Nb) : ∀ u ∈ rowNeighbour x, u.oneCell' = true := by intro u hu; simp at hu; rcases hu with rfl | rfl | rfl <;> rfl
theorem oldN_one (L : List Nb) : oldN L 1 = 0 := by have := oldN_le L 1; omega
set_option maxRecDepth 100000 in
set_option maxHeartbeats 4000000 in
theorem refLearn_any (v : Value) (L : List Nb) (t m : Int) (w : World) (hv : SlOf w 3 Nb.At v L) (ht : tabB L = true) :
    Calls Try.prog 35 #[v, .int .i64 t, .int .i64 m] w fun e w' => ∃ v', e = .returned v' ∧ NbOwn w' w.heap.size v' (learnL L t m) ∧ Below w.heap.size w w' := by
  obtain ⟨hr, h16⟩ := tab_rising ht
  have C1 := Lib.hid (refFind_any v L t w hv (by omega))
  have HF := Lib.hid (learnGo_all t m hr)
  obtain ⟨i0, hi, hz0, hz1, hz2⟩ := info_parts infoNeighbour
  obtain ⟨ao, cap, rfl, -, -, -, hB⟩ := hv
  have HB := Lib.hid hB
  clear hB hr ht
  rcases (show (0 ≤ whereN L t ∧ ∃ i : Nat, whereN L t = i ∧ i < L.length) ∨ (whereN L t = -1) from by
    rcases whereN_range L t with h | ⟨i, h, hl⟩
    · exact .inr h
    · exact .inl ⟨by omega, i, h, hl⟩) with ⟨-, oi, hw, hlt0⟩ | hw
  · have ho : oldI L t = (oi : Int) := by unfold oldI; rw [hw]; simp
    have HO := Lib.hid ho
    rw [hw] at C1
    clear ho hw
    go_enter Try.func35, Try.ntmps35
    go_wp2_with fail
    refine C1.out.mono ?_
    rintro e w' ⟨rfl, rfl⟩
    go_wp2
    go_loopw [9, 10, 11] (fun mv bv i wr => ∃ (k : Nat) (acc : List Nb) (b : Bool), k ≤ L.length ∧ i = .int .i64 k ∧ bv = .bool b ∧ Below w.heap.size w wr ∧ NbOwn wr w.heap.size mv acc ∧ acc.length ≤ 2 * k ∧ learnGo t m (oi : Int) 0 false L = acc ++ learnGo t m (oi : Int) k b (L.drop k)) (fun _ _ i _ => L.length - (intOf i).toNat)
    case atStart => exact ⟨0, [], false, by omega, rfl, rfl, (Below.refl _ w), NbOwn.nil _ _, by simp, rfl⟩
    case round =>
      obtain ⟨k, acc, b0, hk, rfl, rfl, hbl, hown, hacc, hgo⟩ := hrel
      have HL := Lib.hid hgo
      clear hgo
      by_cases hlt : k < L.length
      · obtain ⟨b, off, rfl, hbw, hBB⟩ := HB.out (by intro h; simp [h] at hlt)
        obtain ⟨q, hq⟩ : ∃ x, L[k]? = some x := ⟨_, List.getElem?_eq_getElem hlt⟩
        obtain ⟨c0, c1, c2⟩ := hBB k q hq
        have d0 := (hbl.cell (p := ⟨b, off + k * 3, none⟩) hbw).trans c0
        have d1 := (hbl.cell (p := ⟨b, off + k * 3 + 1, none⟩) hbw).trans c1
        have d2 := (hbl.cell (p := ⟨b, off + k * 3 + 2, none⟩) hbw).trans c2
        have HQ := Lib.hid hq
        clear hBB hq
        have zs0 := hbl.size
        by_cases hge : t ≤ q.ip
        · by_cases heq : ((k : Nat) : Int) = (oi : Int)
          · cases b0 with
            | true =>
              have HS := Lib.hid (show learnGo t m (oi : Int) 0 false L = (acc ++ []) ++ learnGo t m (oi : Int) (k + 1) true (L.drop (k + 1)) from by rw [learnGo_keep HQ.out HL.out]; simp [show t ≤ q.ip from by omega, heq])
              have hne : (((k : Nat) : Int) != (oi : Int)) = false := by simp <;> omega
              clear heq
              go_wp2
              go_roundw
              case rel => exact ⟨k + 1, acc, true, by omega, by go_num, rfl, hbl, hown, by first | omega | (simp only [List.length_append, List.length_cons, List.length_nil]; omega), by rw [HS.out] <;> (try simp only [List.append_nil]) <;> (try simp only [List.nil_append]) <;> (try simp only [List.append_assoc]) <;> (try simp only [List.cons_append])⟩
              case measure => simp [intOf]; omega
            | false =>
              have HS := Lib.hid (show learnGo t m (oi : Int) 0 false L = (acc ++ [newNb t m]) ++ learnGo t m (oi : Int) (k + 1) true (L.drop (k + 1)) from by rw [learnGo_keep HQ.out HL.out]; simp [show t ≤ q.ip from by omega, heq])
              have hne : (((k : Nat) : Int) != (oi : Int)) = false := by simp <;> omega
              clear heq
              unfold NbOwn at hown
              go_wp2_with (at_builtin; refine wpList_append_own _ rfl _ _ 48 rfl w.heap.size 61 i0 (.agg #[.int .i64 0, .int .i64 0, .int .i64 0]) 3 24 Try.underlying48 hi hz0 hz1 hz2 rfl (by decide) _ _ _ rfl (World.ownsRow.alloc hown _) ⟨wr.heap.size, 0, none⟩ 1 1 (rowNeighbour (newNb t m)) rfl rfl (app_c1 _ _) (app_c2 _) (by unfold maxLen; omega) (by omega) (by simp; omega) ?_)
              intro v1 W1 hown1 hgrow1 _
              have hb1 : Below w.heap.size w W1 := ((hbl).alloc (hbl).size _).grown hgrow1 (by have := (hbl).size; simp; omega) (by intro k hk; exact (World.ownsRow.lt hown k hk).1)
              have ho1 := nbOwn_app hown1
              have zs1 := hb1.size
              clear hown1 hgrow1 hown
              go_wp2
              go_roundw
              case rel => exact ⟨k + 1, acc ++ [newNb t m], true, by omega, by go_num, rfl, hb1, ho1, by first | omega | (simp only [List.length_append, List.length_cons, List.length_nil]; omega), by rw [HS.out] <;> (try simp only [List.append_nil]) <;> (try simp only [List.nil_append]) <;> (try simp only [List.append_assoc]) <;> (try simp only [List.cons_append])⟩
              case measure => simp [intOf]; omega
          · cases b0 with
            | true =>
              have HS := Lib.hid (show learnGo t m (oi : Int) 0 false L = (acc ++ [q]) ++ learnGo t m (oi : Int) (k + 1) true (L.drop (k + 1)) from by rw [learnGo_keep HQ.out HL.out]; simp [show t ≤ q.ip from by omega, heq])
              have hne : (((k : Nat) : Int) != (oi : Int)) = true := by simp <;> omega
              clear heq
              unfold NbOwn at hown
              go_wp2_with (at_builtin; refine wpList_append_own _ rfl _ _ 48 rfl w.heap.size 61 i0 (.agg #[.int .i64 0, .int .i64 0, .int .i64 0]) 3 24 Try.underlying48 hi hz0 hz1 hz2 rfl (by decide) _ _ _ rfl (World.ownsRow.alloc hown _) ⟨wr.heap.size, 0, none⟩ 1 1 (rowNeighbour q) rfl rfl (app_c1 _ _) (app_c2 _) (by unfold maxLen; omega) (by omega) (by simp; omega) ?_)
              intro v1 W1 hown1 hgrow1 _
              have hb1 : Below w.heap.size w W1 := ((hbl).alloc (hbl).size _).grown hgrow1 (by have := (hbl).size; simp; omega) (by intro k hk; exact (World.ownsRow.lt hown k hk).1)
              have ho1 := nbOwn_app hown1
              have zs1 := hb1.size
              clear hown1 hgrow1 hown
              go_wp2
              go_roundw
              case rel => exact ⟨k + 1, acc ++ [q], true, by omega, by go_num, rfl, hb1, ho1, by first | omega | (simp only [List.length_append, List.length_cons, List.length_nil]; omega), by rw [HS.out] <;> (try simp only [List.append_nil]) <;> (try simp only [List.nil_append]) <;> (try simp only [List.append_assoc]) <;> (try simp only [List.cons_append])⟩
              case measure => simp [intOf]; omega
            | false =>
              have HS := Lib.hid (show learnGo t m (oi : Int) 0 false L = (acc ++ [newNb t m] ++ [q]) ++ learnGo t m (oi : Int) (k + 1) true (L.drop (k + 1)) from by rw [learnGo_keep HQ.out HL.out]; simp [show t ≤ q.ip from by omega, heq])
              have hne : (((k : Nat) : Int) != (oi : Int)) = true := by simp <;> omega
              clear heq
              unfold NbOwn at hown
              go_wp2_with (at_builtin; refine wpList_append_own _ rfl _ _ 48 rfl w.heap.size 61 i0 (.agg #[.int .i64 0, .int .i64 0, .int .i64 0]) 3 24 Try.underlying48 hi hz0 hz1 hz2 rfl (by decide) _ _ _ rfl (World.ownsRow.alloc hown _) ⟨wr.heap.size, 0, none⟩ 1 1 (rowNeighbour (newNb t m)) rfl rfl (app_c1 _ _) (app_c2 _) (by unfold maxLen; omega) (by omega) (by simp; omega) ?_)
              intro v1 W1 hown1 hgrow1 _
              have hb1 : Below w.heap.size w W1 := ((hbl).alloc (hbl).size _).grown hgrow1 (by have := (hbl).size; simp; omega) (by intro k hk; exact (World.ownsRow.lt hown k hk).1)
              have ho1 := nbOwn_app hown1
              have zs1 := hb1.size
              clear hown1 hgrow1 hown
              have d0_1 := (hb1.cell (p := ⟨b, off + k * 3, none⟩) hbw).trans c0
              have d1_1 := (hb1.cell (p := ⟨b, off + k * 3 + 1, none⟩) hbw).trans c1
              have d2_1 := (hb1.cell (p := ⟨b, off + k * 3 + 2, none⟩) hbw).trans c2
              obtain ⟨acc1, hacc1⟩ : ∃ a, a = acc ++ [newNb t m] := ⟨_, rfl⟩
              rw [← hacc1] at ho1
              have HA1 := Lib.hid hacc1
              have hal : acc1.length ≤ acc.length + 1 := by rw [hacc1, List.length_append]; exact Nat.le_refl _
              clear hacc1
              unfold NbOwn at ho1
              go_wp2_with (at_builtin; refine wpList_append_own _ rfl _ _ 48 rfl w.heap.size 61 i0 (.agg #[.int .i64 0, .int .i64 0, .int .i64 0]) 3 24 Try.underlying48 hi hz0 hz1 hz2 rfl (by decide) _ _ _ rfl (World.ownsRow.alloc ho1 _) ⟨W1.heap.size, 0, none⟩ 1 1 (rowNeighbour q) rfl rfl (app_c1 _ _) (app_c2 _) (by unfold maxLen; omega) (by omega) (by simp; omega) ?_)
              intro v2 W2 hown2 hgrow2 _
              have hb2 : Below w.heap.size w W2 := ((hb1).alloc (hb1).size _).grown hgrow2 (by have := (hb1).size; simp; omega) (by intro k hk; exact (World.ownsRow.lt ho1 k hk).1)
              have ho2 := nbOwn_app hown2
              have zs2 := hb2.size
              clear hown2 hgrow2 ho1
              go_wp2
              go_roundw
              case rel => exact ⟨k + 1, acc1 ++ [q], true, by omega, by go_num, rfl, hb2, ho2, by first | omega | (simp only [List.length_append, List.length_cons, List.length_nil]; omega), by rw [HS.out, HA1.out] <;> (try simp only [List.append_nil]) <;> (try simp only [List.nil_append]) <;> (try simp only [List.append_assoc]) <;> (try simp only [List.cons_append])⟩
              case measure => simp [intOf]; omega
        · by_cases heq : ((k : Nat) : Int) = (oi : Int)
          · cases b0 with
            | true =>
              have HS := Lib.hid (show learnGo t m (oi : Int) 0 false L = (acc ++ []) ++ learnGo t m (oi : Int) (k + 1) true (L.drop (k + 1)) from by rw [learnGo_keep HQ.out HL.out]; simp [show ¬ t ≤ q.ip from by omega, heq])
              have hne : (((k : Nat) : Int) != (oi : Int)) = false := by simp <;> omega
              clear heq
              go_wp2
              go_roundw
              case rel => exact ⟨k + 1, acc, true, by omega, by go_num, rfl, hbl, hown, by first | omega | (simp only [List.length_append, List.length_cons, List.length_nil]; omega), by rw [HS.out] <;> (try simp only [List.append_nil]) <;> (try simp only [List.nil_append]) <;> (try simp only [List.append_assoc]) <;> (try simp only [List.cons_append])⟩
              case measure => simp [intOf]; omega
            | false =>
              have HS := Lib.hid (show learnGo t m (oi : Int) 0 false L = (acc ++ []) ++ learnGo t m (oi : Int) (k + 1) false (L.drop (k + 1)) from by rw [learnGo_keep HQ.out HL.out]; simp [show ¬ t ≤ q.ip from by omega, heq])
              have hne : (((k : Nat) : Int) != (oi : Int)) = false := by simp <;> omega
              clear heq
              go_wp2
              go_roundw
              case rel => exact ⟨k + 1, acc, false, by omega, by go_num, rfl, hbl, hown, by first | omega | (simp only [List.length_append, List.length_cons, List.length_nil]; omega), by rw [HS.out] <;> (try simp only [List.append_nil]) <;> (try simp only [List.nil_append]) <;> (try simp only [List.append_assoc]) <;> (try simp only [List.cons_append])⟩
              case measure => simp [intOf]; omega
          · cases b0 with
            | true =>
              have HS := Lib.hid (show learnGo t m (oi : Int) 0 false L = (acc ++ [q]) ++ learnGo t m (oi : Int) (k + 1) true (L.drop (k + 1)) from by rw [learnGo_keep HQ.out HL.out]; simp [show ¬ t ≤ q.ip from by omega, heq])
              have hne : (((k : Nat) : Int) != (oi : Int)) = true := by simp <;> omega
              clear heq
              unfold NbOwn at hown
              go_wp2_with (at_builtin; refine wpList_append_own _ rfl _ _ 48 rfl w.heap.size 61 i0 (.agg #[.int .i64 0, .int .i64 0, .int .i64 0]) 3 24 Try.underlying48 hi hz0 hz1 hz2 rfl (by decide) _ _ _ rfl (World.ownsRow.alloc hown _) ⟨wr.heap.size, 0, none⟩ 1 1 (rowNeighbour q) rfl rfl (app_c1 _ _) (app_c2 _) (by unfold maxLen; omega) (by omega) (by simp; omega) ?_)
              intro v1 W1 hown1 hgrow1 _
              have hb1 : Below w.heap.size w W1 := ((hbl).alloc (hbl).size _).grown hgrow1 (by have := (hbl).size; simp; omega) (by intro k hk; exact (World.ownsRow.lt hown k hk).1)
              have ho1 := nbOwn_app hown1
              have zs1 := hb1.size
              clear hown1 hgrow1 hown
              go_wp2
              go_roundw
              case rel => exact ⟨k + 1, acc ++ [q], true, by omega, by go_num, rfl, hb1, ho1, by first | omega | (simp only [List.length_append, List.length_cons, List.length_nil]; omega), by rw [HS.out] <;> (try simp only [List.append_nil]) <;> (try simp only [List.nil_append]) <;> (try simp only [List.append_assoc]) <;> (try simp only [List.cons_append])⟩
              case measure => simp [intOf]; omega
            | false =>
              have HS := Lib.hid (show learnGo t m (oi : Int) 0 false L = (acc ++ [q]) ++ learnGo t m (oi : Int) (k + 1) false (L.drop (k + 1)) from by rw [learnGo_keep HQ.out HL.out]; simp [show ¬ t ≤ q.ip from by omega, heq])
              have hne : (((k : Nat) : Int) != (oi : Int)) = true := by simp <;> omega
              clear heq
              unfold NbOwn at hown
              go_wp2_with (at_builtin; refine wpList_append_own _ rfl _ _ 48 rfl w.heap.size 61 i0 (.agg #[.int .i64 0, .int .i64 0, .int .i64 0]) 3 24 Try.underlying48 hi hz0 hz1 hz2 rfl (by decide) _ _ _ rfl (World.ownsRow.alloc hown _) ⟨wr.heap.size, 0, none⟩ 1 1 (rowNeighbour q) rfl rfl (app_c1 _ _) (app_c2 _) (by unfold maxLen; omega) (by omega) (by simp; omega) ?_)
              intro v1 W1 hown1 hgrow1 _
              have hb1 : Below w.heap.size w W1 := ((hbl).alloc (hbl).size _).grown hgrow1 (by have := (hbl).size; simp; omega) (by intro k hk; exact (World.ownsRow.lt hown k hk).1)
              have ho1 := nbOwn_app hown1
              have zs1 := hb1.size
              clear hown1 hgrow1 hown
              go_wp2
              go_roundw
              case rel => exact ⟨k + 1, acc ++ [q], false, by omega, by go_num, rfl, hb1, ho1, by first | omega | (simp only [List.length_append, List.length_cons, List.length_nil]; omega), by rw [HS.out] <;> (try simp only [List.append_nil]) <;> (try simp only [List.nil_append]) <;> (try simp only [List.append_assoc]) <;> (try simp only [List.cons_append])⟩
              case measure => simp [intOf]; omega
      · obtain rfl : k = L.length := by omega
        rw [List.drop_length] at HL
        clear HB
        cases b0 with
        | true =>
          have HE := Lib.hid (show learnL L t m = acc from by rw [← HF.out, HO.out, HL.out]; simp [learnGo])
          go_wp2
          go_ret
          exact ⟨_, rfl, by rw [HE.out]; exact hown, hbl⟩
        | false =>
          have HE := Lib.hid (show learnL L t m = acc ++ [newNb t m] from by rw [← HF.out, HO.out, HL.out]; simp [learnGo])
          have zs0 := hbl.size
          unfold NbOwn at hown
          go_wp2_with (at_builtin; refine wpList_append_own _ rfl _ _ 48 rfl w.heap.size 61 i0 (.agg #[.int .i64 0, .int .i64 0, .int .i64 0]) 3 24 Try.underlying48 hi hz0 hz1 hz2 rfl (by decide) _ _ _ rfl (World.ownsRow.alloc hown _) ⟨wr.heap.size, 0, none⟩ 1 1 (rowNeighbour (newNb t m)) rfl rfl (app_c1 _ _) (app_c2 _) (by unfold maxLen; omega) (by omega) (by simp; omega) ?_)
          intro v1 W1 hown1 hgrow1 _
          have hb1 : Below w.heap.size w W1 := ((hbl).alloc (hbl).size _).grown hgrow1 (by have := (hbl).size; simp; omega) (by intro k hk; exact (World.ownsRow.lt hown k hk).1)
          have ho1 := nbOwn_app hown1
          have zs1 := hb1.size
          clear hown1 hgrow1 hown
          go_wp2
          go_ret
          exact ⟨_, rfl, by rw [HE.out]; exact ho1, hb1⟩
  · rw [hw] at C1
    by_cases hfull : L.length = 16
    · have ho : oldI L t = (oldN L 16 : Int) := by unfold oldI; rw [hw, hfull]; simp
      have HO := Lib.hid ho
      have hol := oldN_le L 16
      have HFU := Lib.hid hfull
      have hge : 16 ≤ L.length := by omega
      have hgb : decide ((16 : Int) ≤ (L.length : Int)) = true := by simp; omega
      clear ho hw hfull
      go_enter Try.func35, Try.ntmps35
      go_wp2_with fail
      refine C1.out.mono ?_
      rintro e w' ⟨rfl, rfl⟩
      go_wp2
      go_loopw [7, 8] (fun o i wr => ∃ (k : Nat), 1 ≤ k ∧ k ≤ L.length ∧ i = .int .i64 k ∧ o = .int .i64 (oldN L k) ∧ ∃ m, wr = w.drewN m) (fun _ i _ => L.length - (intOf i).toNat)
      case atStart => exact ⟨1, by omega, by omega, rfl, by rw [oldN_one]; rfl, 0, rfl⟩
      case round =>
        obtain ⟨k0, hk1, hk, rfl, rfl, md, rfl⟩ := hrel
        by_cases hlt : k0 < L.length
        · obtain ⟨b, off, rfl, hbw, hBB⟩ := HB.out (by intro h; simp [h] at hlt)
          obtain ⟨q, hq⟩ : ∃ x, L[k0]? = some x := ⟨_, List.getElem?_eq_getElem hlt⟩
          have hol2 := oldN_le L k0
          obtain ⟨p, hp⟩ : ∃ x, L[oldN L k0]? = some x := ⟨_, List.getElem?_eq_getElem (by omega)⟩
          obtain ⟨-, -, c2⟩ := hBB k0 q hq
          obtain ⟨-, -, g2⟩ := hBB _ p hp
          have hok : oldN L k0 < L.length := by omega
          by_cases h6 : p.age < q.age
          · have HS := Lib.hid (oldN_yes hp hq h6)
            generalize oldN L k0 = o at *
            clear hBB hq hp hol hol2
            go_wp2
            go_quiet (fail)
            go_wp2
            go_roundw
            case rel => exact ⟨k0 + 1, by omega, by omega, by go_num, by rw [HS.out], md + nq, rfl⟩
            case measure => simp [intOf]; omega
          · have HS := Lib.hid (oldN_no hp hq h6)
            generalize oldN L k0 = o at *
            clear hBB hq hp hol hol2
            go_wp2
            go_quiet (fail)
            go_wp2
            go_roundw
            case rel => exact ⟨k0 + 1, by omega, by omega, by go_num, by rw [HS.out], md + nq, rfl⟩
            case measure => simp [intOf]; omega
        · have HO2 := Lib.hid (show oldI L t = (oldN L k0 : Int) from by rw [HO.out, show k0 = 16 by have := HFU.out; omega])
          have hol0 := oldN_le L k0
          have hk20 : oldN L k0 < 20 := by omega
          have hb0 := bdrew (Below.refl w.heap.size w) md
          clear HO
          have HO := HO2
          clear HO2
          generalize w.drewN md = w0 at *
          go_wp2
          go_loopw [9, 10, 11] (fun mv bv i wr => ∃ (k : Nat) (acc : List Nb) (b : Bool), k ≤ L.length ∧ i = .int .i64 k ∧ bv = .bool b ∧ Below w.heap.size w wr ∧ NbOwn wr w.heap.size mv acc ∧ acc.length ≤ 2 * k ∧ learnGo t m (oldN L k0 : Int) 0 false L = acc ++ learnGo t m (oldN L k0 : Int) k b (L.drop k)) (fun _ _ i _ => L.length - (intOf i).toNat)
          case atStart => exact ⟨0, [], false, by omega, rfl, rfl, hb0, NbOwn.nil _ _, by simp, rfl⟩
          case round =>
            obtain ⟨k, acc, b0, hk, rfl, rfl, hbl, hown, hacc, hgo⟩ := hrel
            have HL := Lib.hid hgo
            clear hgo
            by_cases hlt : k < L.length
            · obtain ⟨b, off, rfl, hbw, hBB⟩ := HB.out (by intro h; simp [h] at hlt)
              obtain ⟨q, hq⟩ : ∃ x, L[k]? = some x := ⟨_, List.getElem?_eq_getElem hlt⟩
              obtain ⟨c0, c1, c2⟩ := hBB k q hq
              have d0 := (hbl.cell (p := ⟨b, off + k * 3, none⟩) hbw).trans c0
              have d1 := (hbl.cell (p := ⟨b, off + k * 3 + 1, none⟩) hbw).trans c1
              have d2 := (hbl.cell (p := ⟨b, off + k * 3 + 2, none⟩) hbw).trans c2
              have HQ := Lib.hid hq
              clear hBB hq
              have zs0 := hbl.size
              by_cases hge : t ≤ q.ip
              · by_cases heq : ((k : Nat) : Int) = (oldN L k0 : Int)
                · cases b0 with
                  | true =>
                    have HS := Lib.hid (show learnGo t m (oldN L k0 : Int) 0 false L = (acc ++ []) ++ learnGo t m (oldN L k0 : Int) (k + 1) true (L.drop (k + 1)) from by rw [learnGo_keep HQ.out HL.out]; simp [show t ≤ q.ip from by omega, heq])
                    have hne : (((k : Nat) : Int) != (oldN L k0 : Int)) = false := by simp <;> omega
                    clear heq
                    go_wp2
                    go_roundw
                    case rel => exact ⟨k + 1, acc, true, by omega, by go_num, rfl, hbl, hown, by first | omega | (simp only [List.length_append, List.length_cons, List.length_nil]; omega), by rw [HS.out] <;> (try simp only [List.append_nil]) <;> (try simp only [List.nil_append]) <;> (try simp only [List.append_assoc]) <;> (try simp only [List.cons_append])⟩
                    case measure => simp [intOf]; omega
                  | false =>
                    have HS := Lib.hid (show learnGo t m (oldN L k0 : Int) 0 false L = (acc ++ [newNb t m]) ++ learnGo t m (oldN L k0 : Int) (k + 1) true (L.drop (k + 1)) from by rw [learnGo_keep HQ.out HL.out]; simp [show t ≤ q.ip from by omega, heq])
                    have hne : (((k : Nat) : Int) != (oldN L k0 : Int)) = false := by simp <;> omega
                    clear heq
                    unfold NbOwn at hown
                    go_wp2_with (at_builtin; refine wpList_append_own _ rfl _ _ 48 rfl w.heap.size 61 i0 (.agg #[.int .i64 0, .int .i64 0, .int .i64 0]) 3 24 Try.underlying48 hi hz0 hz1 hz2 rfl (by decide) _ _ _ rfl (World.ownsRow.alloc hown _) ⟨wr.heap.size, 0, none⟩ 1 1 (rowNeighbour (newNb t m)) rfl rfl (app_c1 _ _) (app_c2 _) (by unfold maxLen; omega) (by omega) (by simp; omega) ?_)
                    intro v1 W1 hown1 hgrow1 _
                    have hb1 : Below w.heap.size w W1 := ((hbl).alloc (hbl).size _).grown hgrow1 (by have := (hbl).size; simp; omega) (by intro k hk; exact (World.ownsRow.lt hown k hk).1)
                    have ho1 := nbOwn_app hown1
                    have zs1 := hb1.size
                    clear hown1 hgrow1 hown
                    go_wp2
                    go_roundw
                    case rel => exact ⟨k + 1, acc ++ [newNb t m], true, by omega, by go_num, rfl, hb1, ho1, by first | omega | (simp only [List.length_append, List.length_cons, List.length_nil]; omega), by rw [HS.out] <;> (try simp only [List.append_nil]) <;> (try simp only [List.nil_append]) <;> (try simp only [List.append_assoc]) <;> (try simp only [List.cons_append])⟩
                    case measure => simp [intOf]; omega
                · cases b0 with
                  | true =>
                    have HS := Lib.hid (show learnGo t m (oldN L k0 : Int) 0 false L = (acc ++ [q]) ++ learnGo t m (oldN L k0 : Int) (k + 1) true (L.drop (k + 1)) from by rw [learnGo_keep HQ.out HL.out]; simp [show t ≤ q.ip from by omega, heq])
                    have hne : (((k : Nat) : Int) != (oldN L k0 : Int)) = true := by simp <;> omega
                    clear heq
                    unfold NbOwn at hown
                    go_wp2_with (at_builtin; refine wpList_append_own _ rfl _ _ 48 rfl w.heap.size 61 i0 (.agg #[.int .i64 0, .int .i64 0, .int .i64 0]) 3 24 Try.underlying48 hi hz0 hz1 hz2 rfl (by decide) _ _ _ rfl (World.ownsRow.alloc hown _) ⟨wr.heap.size, 0, none⟩ 1 1 (rowNeighbour q) rfl rfl (app_c1 _ _) (app_c2 _) (by unfold maxLen; omega) (by omega) (by simp; omega) ?_)
                    intro v1 W1 hown1 hgrow1 _
                    have hb1 : Below w.heap.size w W1 := ((hbl).alloc (hbl).size _).grown hgrow1 (by have := (hbl).size; simp; omega) (by intro k hk; exact (World.ownsRow.lt hown k hk).1)
                    have ho1 := nbOwn_app hown1
                    have zs1 := hb1.size
                    clear hown1 hgrow1 hown
                    go_wp2
                    go_roundw
                    case rel => exact ⟨k + 1, acc ++ [q], true, by omega, by go_num, rfl, hb1, ho1, by first | omega | (simp only [List.length_append, List.length_cons, List.length_nil]; omega), by rw [HS.out] <;> (try simp only [List.append_nil]) <;> (try simp only [List.nil_append]) <;> (try simp only [List.append_assoc]) <;> (try simp only [List.cons_append])⟩
                    case measure => simp [intOf]; omega
                  | false =>
                    have HS := Lib.hid (show learnGo t m (oldN L k0 : Int) 0 false L = (acc ++ [newNb t m] ++ [q]) ++ learnGo t m (oldN L k0 : Int) (k + 1) true (L.drop (k + 1)) from by rw [learnGo_keep HQ.out HL.out]; simp [show t ≤ q.ip from by omega, heq])
                    have hne : (((k : Nat) : Int) != (oldN L k0 : Int)) = true := by simp <;> omega
                    clear heq
                    unfold NbOwn at hown
                    go_wp2_with (at_builtin; refine wpList_append_own _ rfl _ _ 48 rfl w.heap.size 61 i0 (.agg #[.int .i64 0, .int .i64 0, .int .i64 0]) 3 24 Try.underlying48 hi hz0 hz1 hz2 rfl (by decide) _ _ _ rfl (World.ownsRow.alloc hown _) ⟨wr.heap.size, 0, none⟩ 1 1 (rowNeighbour (newNb t m)) rfl rfl (app_c1 _ _) (app_c2 _) (by unfold maxLen; omega) (by omega) (by simp; omega) ?_)
                    intro v1 W1 hown1 hgrow1 _
                    have hb1 : Below w.heap.size w W1 := ((hbl).alloc (hbl).size _).grown hgrow1 (by have := (hbl).size; simp; omega) (by intro k hk; exact (World.ownsRow.lt hown k hk).1)
                    have ho1 := nbOwn_app hown1
                    have zs1 := hb1.size
                    clear hown1 hgrow1 hown
                    have d0_1 := (hb1.cell (p := ⟨b, off + k * 3, none⟩) hbw).trans c0
                    have d1_1 := (hb1.cell (p := ⟨b, off + k * 3 + 1, none⟩) hbw).trans c1
                    have d2_1 := (hb1.cell (p := ⟨b, off + k * 3 + 2, none⟩) hbw).trans c2
                    obtain ⟨acc1, hacc1⟩ : ∃ a, a = acc ++ [newNb t m] := ⟨_, rfl⟩
                    rw [← hacc1] at ho1
                    have HA1 := Lib.hid hacc1
                    have hal : acc1.length ≤ acc.length + 1 := by rw [hacc1, List.length_append]; exact Nat.le_refl _
                    clear hacc1
                    unfold NbOwn at ho1
                    go_wp2_with (at_builtin; refine wpList_append_own _ rfl _ _ 48 rfl w.heap.size 61 i0 (.agg #[.int .i64 0, .int .i64 0, .int .i64 0]) 3 24 Try.underlying48 hi hz0 hz1 hz2 rfl (by decide) _ _ _ rfl (World.ownsRow.alloc ho1 _) ⟨W1.heap.size, 0, none⟩ 1 1 (rowNeighbour q) rfl rfl (app_c1 _ _) (app_c2 _) (by unfold maxLen; omega) (by omega) (by simp; omega) ?_)
                    intro v2 W2 hown2 hgrow2 _
                    have hb2 : Below w.heap.size w W2 := ((hb1).alloc (hb1).size _).grown hgrow2 (by have := (hb1).size; simp; omega) (by intro k hk; exact (World.ownsRow.lt ho1 k hk).1)
                    have ho2 := nbOwn_app hown2
                    have zs2 := hb2.size
                    clear hown2 hgrow2 ho1
                    go_wp2
                    go_roundw
                    case rel => exact ⟨k + 1, acc1 ++ [q], true, by omega, by go_num, rfl, hb2, ho2, by first | omega | (simp only [List.length_append, List.length_cons, List.length_nil]; omega), by rw [HS.out, HA1.out] <;> (try simp only [List.append_nil]) <;> (try simp only [List.nil_append]) <;> (try simp only [List.append_assoc]) <;> (try simp only [List.cons_append])⟩
                    case measure => simp [intOf]; omega
              · by_cases heq : ((k : Nat) : Int) = (oldN L k0 : Int)
                · cases b0 with
                  | true =>
                    have HS := Lib.hid (show learnGo t m (oldN L k0 : Int) 0 false L = (acc ++ []) ++ learnGo t m (oldN L k0 : Int) (k + 1) true (L.drop (k + 1)) from by rw [learnGo_keep HQ.out HL.out]; simp [show ¬ t ≤ q.ip from by omega, heq])
                    have hne : (((k : Nat) : Int) != (oldN L k0 : Int)) = false := by simp <;> omega
                    clear heq
                    go_wp2
                    go_roundw
                    case rel => exact ⟨k + 1, acc, true, by omega, by go_num, rfl, hbl, hown, by first | omega | (simp only [List.length_append, List.length_cons, List.length_nil]; omega), by rw [HS.out] <;> (try simp only [List.append_nil]) <;> (try simp only [List.nil_append]) <;> (try simp only [List.append_assoc]) <;> (try simp only [List.cons_append])⟩
                    case measure => simp [intOf]; omega
                  | false =>
                    have HS := Lib.hid (show learnGo t m (oldN L k0 : Int) 0 false L = (acc ++ []) ++ learnGo t m (oldN L k0 : Int) (k + 1) false (L.drop (k + 1)) from by rw [learnGo_keep HQ.out HL.out]; simp [show ¬ t ≤ q.ip from by omega, heq])
                    have hne : (((k : Nat) : Int) != (oldN L k0 : Int)) = false := by simp <;> omega
                    clear heq
                    go_wp2
                    go_roundw
                    case rel => exact ⟨k + 1, acc, false, by omega, by go_num, rfl, hbl, hown, by first | omega | (simp only [List.length_append, List.length_cons, List.length_nil]; omega), by rw [HS.out] <;> (try simp only [List.append_nil]) <;> (try simp only [List.nil_append]) <;> (try simp only [List.append_assoc]) <;> (try simp only [List.cons_append])⟩
                    case measure => simp [intOf]; omega
                · cases b0 with
                  | true =>
                    have HS := Lib.hid (show learnGo t m (oldN L k0 : Int) 0 false L = (acc ++ [q]) ++ learnGo t m (oldN L k0 : Int) (k + 1) true (L.drop (k + 1)) from by rw [learnGo_keep HQ.out HL.out]; simp [show ¬ t ≤ q.ip from by omega, heq])
                    have hne : (((k : Nat) : Int) != (oldN L k0 : Int)) = true := by simp <;> omega
                    clear heq
                    unfold NbOwn at hown
                    go_wp2_with (at_builtin; refine wpList_append_own _ rfl _ _ 48 rfl w.heap.size 61 i0 (.agg #[.int .i64 0, .int .i64 0, .int .i64 0]) 3 24 Try.underlying48 hi hz0 hz1 hz2 rfl (by decide) _ _ _ rfl (World.ownsRow.alloc hown _) ⟨wr.heap.size, 0, none⟩ 1 1 (rowNeighbour q) rfl rfl (app_c1 _ _) (app_c2 _) (by unfold maxLen; omega) (by omega) (by simp; omega) ?_)
                    intro v1 W1 hown1 hgrow1 _
                    have hb1 : Below w.heap.size w W1 := ((hbl).alloc (hbl).size _).grown hgrow1 (by have := (hbl).size; simp; omega) (by intro k hk; exact (World.ownsRow.lt hown k hk).1)
                    have ho1 := nbOwn_app hown1
                    have zs1 := hb1.size
                    clear hown1 hgrow1 hown
                    go_wp2
                    go_roundw
                    case rel => exact ⟨k + 1, acc ++ [q], true, by omega, by go_num, rfl, hb1, ho1, by first | omega | (simp only [List.length_append, List.length_cons, List.length_nil]; omega), by rw [HS.out] <;> (try simp only [List.append_nil]) <;> (try simp only [List.nil_append]) <;> (try simp only [List.append_assoc]) <;> (try simp only [List.cons_append])⟩
                    case measure => simp [intOf]; omega
                  | false =>
                    have HS := Lib.hid (show learnGo t m (oldN L k0 : Int) 0 false L = (acc ++ [q]) ++ learnGo t m (oldN L k0 : Int) (k + 1) false (L.drop (k + 1)) from by rw [learnGo_keep HQ.out HL.out]; simp [show ¬ t ≤ q.ip from by omega, heq])
                    have hne : (((k : Nat) : Int) != (oldN L k0 : Int)) = true := by simp <;> omega
                    clear heq
                    unfold NbOwn at hown
                    go_wp2_with (at_builtin; refine wpList_append_own _ rfl _ _ 48 rfl w.heap.size 61 i0 (.agg #[.int .i64 0, .int .i64 0, .int .i64 0]) 3 24 Try.underlying48 hi hz0 hz1 hz2 rfl (by decide) _ _ _ rfl (World.ownsRow.alloc hown _) ⟨wr.heap.size, 0, none⟩ 1 1 (rowNeighbour q) rfl rfl (app_c1 _ _) (app_c2 _) (by unfold maxLen; omega) (by omega) (by simp; omega) ?_)
                    intro v1 W1 hown1 hgrow1 _
                    have hb1 : Below w.heap.size w W1 := ((hbl).alloc (hbl).size _).grown hgrow1 (by have := (hbl).size; simp; omega) (by intro k hk; exact (World.ownsRow.lt hown k hk).1)
                    have ho1 := nbOwn_app hown1
                    have zs1 := hb1.size
                    clear hown1 hgrow1 hown
                    go_wp2
                    go_roundw
                    case rel => exact ⟨k + 1, acc ++ [q], false, by omega, by go_num, rfl, hb1, ho1, by first | omega | (simp only [List.length_append, List.length_cons, List.length_nil]; omega), by rw [HS.out] <;> (try simp only [List.append_nil]) <;> (try simp only [List.nil_append]) <;> (try simp only [List.append_assoc]) <;> (try simp only [List.cons_append])⟩
                    case measure => simp [intOf]; omega
            · obtain rfl : k = L.length := by omega
              rw [List.drop_length] at HL
              clear HB
              cases b0 with
              | true =>
                have HE := Lib.hid (show learnL L t m = acc from by rw [← HF.out, HO.out, HL.out]; simp [learnGo])
                go_wp2
                go_ret
                exact ⟨_, rfl, by rw [HE.out]; exact hown, hbl⟩
              | false =>
                have HE := Lib.hid (show learnL L t m = acc ++ [newNb t m] from by rw [← HF.out, HO.out, HL.out]; simp [learnGo])
                have zs0 := hbl.size
                unfold NbOwn at hown
                go_wp2_with (at_builtin; refine wpList_append_own _ rfl _ _ 48 rfl w.heap.size 61 i0 (.agg #[.int .i64 0, .int .i64 0, .int .i64 0]) 3 24 Try.underlying48 hi hz0 hz1 hz2 rfl (by decide) _ _ _ rfl (World.ownsRow.alloc hown _) ⟨wr.heap.size, 0, none⟩ 1 1 (rowNeighbour (newNb t m)) rfl rfl (app_c1 _ _) (app_c2 _) (by unfold maxLen; omega) (by omega) (by simp; omega) ?_)
                intro v1 W1 hown1 hgrow1 _
                have hb1 : Below w.heap.size w W1 := ((hbl).alloc (hbl).size _).grown hgrow1 (by have := (hbl).size; simp; omega) (by intro k hk; exact (World.ownsRow.lt hown k hk).1)
                have ho1 := nbOwn_app hown1
                have zs1 := hb1.size
                clear hown1 hgrow1 hown
                go_wp2
                go_ret
                exact ⟨_, rfl, by rw [HE.out]; exact ho1, hb1⟩
    · have ho : oldI L t = -1 := by
        unfold oldI; rw [hw]
        simp only [show ¬ (0 : Int) ≤ -1 by decide, if_false]
        rw [if_neg (by omega)]
      have HO := Lib.hid ho
      have hlt16 : L.length < 16 := by omega
      clear ho hw hfull
      go_enter Try.func35, Try.ntmps35
      go_wp2_with fail
      refine C1.out.mono ?_
      rintro e w' ⟨rfl, rfl⟩
      go_wp2
      go_loopw [9, 10, 11] (fun mv bv i wr => ∃ (k : Nat) (acc : List Nb) (b : Bool), k ≤ L.length ∧ i = .int .i64 k ∧ bv = .bool b ∧ Below w.heap.size w wr ∧ NbOwn wr w.heap.size mv acc ∧ acc.length ≤ 2 * k ∧ learnGo t m (-1 : Int) 0 false L = acc ++ learnGo t m (-1 : Int) k b (L.drop k)) (fun _ _ i _ => L.length - (intOf i).toNat)
      case atStart => exact ⟨0, [], false, by omega, rfl, rfl, (Below.refl _ w), NbOwn.nil _ _, by simp, rfl⟩
      case round =>
        obtain ⟨k, acc, b0, hk, rfl, rfl, hbl, hown, hacc, hgo⟩ := hrel
        have HL := Lib.hid hgo
        clear hgo
        by_cases hlt : k < L.length
        · obtain ⟨b, off, rfl, hbw, hBB⟩ := HB.out (by intro h; simp [h] at hlt)
          obtain ⟨q, hq⟩ : ∃ x, L[k]? = some x := ⟨_, List.getElem?_eq_getElem hlt⟩
          obtain ⟨c0, c1, c2⟩ := hBB k q hq
          have d0 := (hbl.cell (p := ⟨b, off + k * 3, none⟩) hbw).trans c0
          have d1 := (hbl.cell (p := ⟨b, off + k * 3 + 1, none⟩) hbw).trans c1
          have d2 := (hbl.cell (p := ⟨b, off + k * 3 + 2, none⟩) hbw).trans c2
          have HQ := Lib.hid hq
          clear hBB hq
          have zs0 := hbl.size
          by_cases hge : t ≤ q.ip
          · by_cases heq : ((k : Nat) : Int) = (-1 : Int)
            · cases b0 with
              | true =>
                have HS := Lib.hid (show learnGo t m (-1 : Int) 0 false L = (acc ++ []) ++ learnGo t m (-1 : Int) (k + 1) true (L.drop (k + 1)) from by rw [learnGo_keep HQ.out HL.out]; simp [show t ≤ q.ip from by omega, heq])
                have hne : (((k : Nat) : Int) != (-1 : Int)) = false := by simp <;> omega
                clear heq
                go_wp2
                go_roundw
                case rel => exact ⟨k + 1, acc, true, by omega, by go_num, rfl, hbl, hown, by first | omega | (simp only [List.length_append, List.length_cons, List.length_nil]; omega), by rw [HS.out] <;> (try simp only [List.append_nil]) <;> (try simp only [List.nil_append]) <;> (try simp only [List.append_assoc]) <;> (try simp only [List.cons_append])⟩
                case measure => simp [intOf]; omega
              | false =>
                have HS := Lib.hid (show learnGo t m (-1 : Int) 0 false L = (acc ++ [newNb t m]) ++ learnGo t m (-1 : Int) (k + 1) true (L.drop (k + 1)) from by rw [learnGo_keep HQ.out HL.out]; simp [show t ≤ q.ip from by omega, heq])
                have hne : (((k : Nat) : Int) != (-1 : Int)) = false := by simp <;> omega
                clear heq
                unfold NbOwn at hown
                go_wp2_with (at_builtin; refine wpList_append_own _ rfl _ _ 48 rfl w.heap.size 61 i0 (.agg #[.int .i64 0, .int .i64 0, .int .i64 0]) 3 24 Try.underlying48 hi hz0 hz1 hz2 rfl (by decide) _ _ _ rfl (World.ownsRow.alloc hown _) ⟨wr.heap.size, 0, none⟩ 1 1 (rowNeighbour (newNb t m)) rfl rfl (app_c1 _ _) (app_c2 _) (by unfold maxLen; omega) (by omega) (by simp; omega) ?_)
                intro v1 W1 hown1 hgrow1 _
                have hb1 : Below w.heap.size w W1 := ((hbl).alloc (hbl).size _).grown hgrow1 (by have := (hbl).size; simp; omega) (by intro k hk; exact (World.ownsRow.lt hown k hk).1)
                have ho1 := nbOwn_app hown1
                have zs1 := hb1.size
                clear hown1 hgrow1 hown
                go_wp2
                go_roundw
                case rel => exact ⟨k + 1, acc ++ [newNb t m], true, by omega, by go_num, rfl, hb1, ho1, by first | omega | (simp only [List.length_append, List.length_cons, List.length_nil]; omega), by rw [HS.out] <;> (try simp only [List.append_nil]) <;> (try simp only [List.nil_append]) <;> (try simp only [List.append_assoc]) <;> (try simp only [List.cons_append])⟩
                case measure => simp [intOf]; omega
            · cases b0 with
              | true =>
                have HS := Lib.hid (show learnGo t m (-1 : Int) 0 false L = (acc ++ [q]) ++ learnGo t m (-1 : Int) (k + 1) true (L.drop (k + 1)) from by rw [learnGo_keep HQ.out HL.out]; simp [show t ≤ q.ip from by omega, heq])
                have hne : (((k : Nat) : Int) != (-1 : Int)) = true := by simp <;> omega
                clear heq
                unfold NbOwn at hown
                go_wp2_with (at_builtin; refine wpList_append_own _ rfl _ _ 48 rfl w.heap.size 61 i0 (.agg #[.int .i64 0, .int .i64 0, .int .i64 0]) 3 24 Try.underlying48 hi hz0 hz1 hz2 rfl (by decide) _ _ _ rfl (World.ownsRow.alloc hown _) ⟨wr.heap.size, 0, none⟩ 1 1 (rowNeighbour q) rfl rfl (app_c1 _ _) (app_c2 _) (by unfold maxLen; omega) (by omega) (by simp; omega) ?_)
                intro v1 W1 hown1 hgrow1 _
                have hb1 : Below w.heap.size w W1 := ((hbl).alloc (hbl).size _).grown hgrow1 (by have := (hbl).size; simp; omega) (by intro k hk; exact (World.ownsRow.lt hown k hk).1)
                have ho1 := nbOwn_app hown1
                have zs1 := hb1.size
                clear hown1 hgrow1 hown
                go_wp2
                go_roundw
                case rel => exact ⟨k + 1, acc ++ [q], true, by omega, by go_num, rfl, hb1, ho1, by first | omega | (simp only [List.length_append, List.length_cons, List.length_nil]; omega), by rw [HS.out] <;> (try simp only [List.append_nil]) <;> (try simp only [List.nil_append]) <;> (try simp only [List.append_assoc]) <;> (try simp only [List.cons_append])⟩
                case measure => simp [intOf]; omega
              | false =>
                have HS := Lib.hid (show learnGo t m (-1 : Int) 0 false L = (acc ++ [newNb t m] ++ [q]) ++ learnGo t m (-1 : Int) (k + 1) true (L.drop (k + 1)) from by rw [learnGo_keep HQ.out HL.out]; simp [show t ≤ q.ip from by omega, heq])
                have hne : (((k : Nat) : Int) != (-1 : Int)) = true := by simp <;> omega
                clear heq
                unfold NbOwn at hown
                go_wp2_with (at_builtin; refine wpList_append_own _ rfl _ _ 48 rfl w.heap.size 61 i0 (.agg #[.int .i64 0, .int .i64 0, .int .i64 0]) 3 24 Try.underlying48 hi hz0 hz1 hz2 rfl (by decide) _ _ _ rfl (World.ownsRow.alloc hown _) ⟨wr.heap.size, 0, none⟩ 1 1 (rowNeighbour (newNb t m)) rfl rfl (app_c1 _ _) (app_c2 _) (by unfold maxLen; omega) (by omega) (by simp; omega) ?_)
                intro v1 W1 hown1 hgrow1 _
                have hb1 : Below w.heap.size w W1 := ((hbl).alloc (hbl).size _).grown hgrow1 (by have := (hbl).size; simp; omega) (by intro k hk; exact (World.ownsRow.lt hown k hk).1)
                have ho1 := nbOwn_app hown1
                have zs1 := hb1.size
                clear hown1 hgrow1 hown
                have d0_1 := (hb1.cell (p := ⟨b, off + k * 3, none⟩) hbw).trans c0
                have d1_1 := (hb1.cell (p := ⟨b, off + k * 3 + 1, none⟩) hbw).trans c1
                have d2_1 := (hb1.cell (p := ⟨b, off + k * 3 + 2, none⟩) hbw).trans c2
                obtain ⟨acc1, hacc1⟩ : ∃ a, a = acc ++ [newNb t m] := ⟨_, rfl⟩
                rw [← hacc1] at ho1
                have HA1 := Lib.hid hacc1
                have hal : acc1.length ≤ acc.length + 1 := by rw [hacc1, List.length_append]; exact Nat.le_refl _
                clear hacc1
                unfold NbOwn at ho1
                go_wp2_with (at_builtin; refine wpList_append_own _ rfl _ _ 48 rfl w.heap.size 61 i0 (.agg #[.int .i64 0, .int .i64 0, .int .i64 0]) 3 24 Try.underlying48 hi hz0 hz1 hz2 rfl (by decide) _ _ _ rfl (World.ownsRow.alloc ho1 _) ⟨W1.heap.size, 0, none⟩ 1 1 (rowNeighbour q) rfl rfl (app_c1 _ _) (app_c2 _) (by unfold maxLen; omega) (by omega) (by simp; omega) ?_)
                intro v2 W2 hown2 hgrow2 _
                have hb2 : Below w.heap.size w W2 := ((hb1).alloc (hb1).size _).grown hgrow2 (by have := (hb1).size; simp; omega) (by intro k hk; exact (World.ownsRow.lt ho1 k hk).1)
                have ho2 := nbOwn_app hown2
                have zs2 := hb2.size
                clear hown2 hgrow2 ho1
                go_wp2
                go_roundw
                case rel => exact ⟨k + 1, acc1 ++ [q], true, by omega, by go_num, rfl, hb2, ho2, by first | omega | (simp only [List.length_append, List.length_cons, List.length_nil]; omega), by rw [HS.out, HA1.out] <;> (try simp only [List.append_nil]) <;> (try simp only [List.nil_append]) <;> (try simp only [List.append_assoc]) <;> (try simp only [List.cons_append])⟩
                case measure => simp [intOf]; omega
          · by_cases heq : ((k : Nat) : Int) = (-1 : Int)
            · cases b0 with
              | true =>
                have HS := Lib.hid (show learnGo t m (-1 : Int) 0 false L = (acc ++ []) ++ learnGo t m (-1 : Int) (k + 1) true (L.drop (k + 1)) from by rw [learnGo_keep HQ.out HL.out]; simp [show ¬ t ≤ q.ip from by omega, heq])
                have hne : (((k : Nat) : Int) != (-1 : Int)) = false := by simp <;> omega
                clear heq
                go_wp2
                go_roundw
                case rel => exact ⟨k + 1, acc, true, by omega, by go_num, rfl, hbl, hown, by first | omega | (simp only [List.length_append, List.length_cons, List.length_nil]; omega), by rw [HS.out] <;> (try simp only [List.append_nil]) <;> (try simp only [List.nil_append]) <;> (try simp only [List.append_assoc]) <;> (try simp only [List.cons_append])⟩
                case measure => simp [intOf]; omega
              | false =>
                have HS := Lib.hid (show learnGo t m (-1 : Int) 0 false L = (acc ++ []) ++ learnGo t m (-1 : Int) (k + 1) false (L.drop (k + 1)) from by rw [learnGo_keep HQ.out HL.out]; simp [show ¬ t ≤ q.ip from by omega, heq])
                have hne : (((k : Nat) : Int) != (-1 : Int)) = false := by simp <;> omega
                clear heq
                go_wp2
                go_roundw
                case rel => exact ⟨k + 1, acc, false, by omega, by go_num, rfl, hbl, hown, by first | omega | (simp only [List.length_append, List.length_cons, List.length_nil]; omega), by rw [HS.out] <;> (try simp only [List.append_nil]) <;> (try simp only [List.nil_append]) <;> (try simp only [List.append_assoc]) <;> (try simp only [List.cons_append])⟩
                case measure => simp [intOf]; omega
            · cases b0 with
              | true =>
                have HS := Lib.hid (show learnGo t m (-1 : Int) 0 false L = (acc ++ [q]) ++ learnGo t m (-1 : Int) (k + 1) true (L.drop (k + 1)) from by rw [learnGo_keep HQ.out HL.out]; simp [show ¬ t ≤ q.ip from by omega, heq])
                have hne : (((k : Nat) : Int) != (-1 : Int)) = true := by simp <;> omega
                clear heq
                unfold NbOwn at hown
                go_wp2_with (at_builtin; refine wpList_append_own _ rfl _ _ 48 rfl w.heap.size 61 i0 (.agg #[.int .i64 0, .int .i64 0, .int .i64 0]) 3 24 Try.underlying48 hi hz0 hz1 hz2 rfl (by decide) _ _ _ rfl (World.ownsRow.alloc hown _) ⟨wr.heap.size, 0, none⟩ 1 1 (rowNeighbour q) rfl rfl (app_c1 _ _) (app_c2 _) (by unfold maxLen; omega) (by omega) (by simp; omega) ?_)
                intro v1 W1 hown1 hgrow1 _
                have hb1 : Below w.heap.size w W1 := ((hbl).alloc (hbl).size _).grown hgrow1 (by have := (hbl).size; simp; omega) (by intro k hk; exact (World.ownsRow.lt hown k hk).1)
                have ho1 := nbOwn_app hown1
                have zs1 := hb1.size
                clear hown1 hgrow1 hown
                go_wp2
                go_roundw
                case rel => exact ⟨k + 1, acc ++ [q], true, by omega, by go_num, rfl, hb1, ho1, by first | omega | (simp only [List.length_append, List.length_cons, List.length_nil]; omega), by rw [HS.out] <;> (try simp only [List.append_nil]) <;> (try simp only [List.nil_append]) <;> (try simp only [List.append_assoc]) <;> (try simp only [List.cons_append])⟩
                case measure => simp [intOf]; omega
              | false =>
                have HS := Lib.hid (show learnGo t m (-1 : Int) 0 false L = (acc ++ [q]) ++ learnGo t m (-1 : Int) (k + 1) false (L.drop (k + 1)) from by rw [learnGo_keep HQ.out HL.out]; simp [show ¬ t ≤ q.ip from by omega, heq])
                have hne : (((k : Nat) : Int) != (-1 : Int)) = true := by simp <;> omega
                clear heq
                unfold NbOwn at hown
                go_wp2_with (at_builtin; refine wpList_append_own _ rfl _ _ 48 rfl w.heap.size 61 i0 (.agg #[.int .i64 0, .int .i64 0, .int .i64 0]) 3 24 Try.underlying48 hi hz0 hz1 hz2 rfl (by decide) _ _ _ rfl (World.ownsRow.alloc hown _) ⟨wr.heap.size, 0, none⟩ 1 1 (rowNeighbour q) rfl rfl (app_c1 _ _) (app_c2 _) (by unfold maxLen; omega) (by omega) (by simp; omega) ?_)
                intro v1 W1 hown1 hgrow1 _
                have hb1 : Below w.heap.size w W1 := ((hbl).alloc (hbl).size _).grown hgrow1 (by have := (hbl).size; simp; omega) (by intro k hk; exact (World.ownsRow.lt hown k hk).1)
                have ho1 := nbOwn_app hown1
                have zs1 := hb1.size
                clear hown1 hgrow1 hown
                go_wp2
                go_roundw
                case rel => exact ⟨k + 1, acc ++ [q], false, by omega, by go_num, rfl, hb1, ho1, by first | omega | (simp only [List.length_append, List.length_cons, List.length_nil]; omega), by rw [HS.out] <;> (try simp only [List.append_nil]) <;> (try simp only [List.nil_append]) <;> (try simp only [List.append_assoc]) <;> (try simp only [List.cons_append])⟩
                case measure => simp [intOf]; omega
        · obtain rfl : k = L.length := by omega
          rw [List.drop_length] at HL
          clear HB
          cases b0 with
          | true =>
            have HE := Lib.hid (show learnL L t m = acc from by rw [← HF.out, HO.out, HL.out]; simp [learnGo])
            go_wp2
            go_ret
            exact ⟨_, rfl, by rw [HE.out]; exact hown, hbl⟩
          | false =>
            have HE := Lib.hid (show learnL L t m = acc ++ [newNb t m] from by rw [← HF.out, HO.out, HL.out]; simp [learnGo])
            have zs0 := hbl.size
            unfold NbOwn at hown
            go_wp2_with (at_builtin; refine wpList_append_own _ rfl _ _ 48 rfl w.heap.size 61 i0 (.agg #[.int .i64 0, .int .i64 0, .int .i64 0]) 3 24 Try.underlying48 hi hz0 hz1 hz2 rfl (by decide) _ _ _ rfl (World.ownsRow.alloc hown _) ⟨wr.heap.size, 0, none⟩ 1 1 (rowNeighbour (newNb t m)) rfl rfl (app_c1 _ _) (app_c2 _) (by unfold maxLen; omega) (by omega) (by simp; omega) ?_)
            intro v1 W1 hown1 hgrow1 _
            have hb1 : Below w.heap.size w W1 := ((hbl).alloc (hbl).size _).grown hgrow1 (by have := (hbl).size; simp; omega) (by intro k hk; exact (World.ownsRow.lt hown k hk).1)
            have ho1 := nbOwn_app hown1
            have zs1 := hb1.size
            clear hown1 hgrow1 hown
            go_wp2
            go_ret
            exact ⟨_, rfl, by rw [HE.out]; exact ho1, hb1⟩
end Go.Proofs.Ytcomaacfhfnipaa
