/-
  Neighbours: a tick, of the program and of the reference; who was silent longest.
-/
import Derived.Test.YtcomaacfhfnipaaNbK
namespace Go.Proofs.Ytcomaacfhfnipaa
open Go.RowKit
theorem below_low {w w' : World} {base B : Nat} (h : Below B w w') (hb : base ≤ B) : Below base w w' := ⟨h.os, h.tape, h.output, h.size, fun k hk => h.block k (by omega)⟩
def older (q : Nb) : Nb := { q with age := q.age + 1 }
def tickR (L : List Nb) : List Nb := (L.map older).filter fun q => decide (q.age ≤ 600)
theorem tickR_snoc (L : List Nb) (k : Nat) (q : Nb) (h : L[k]? = some q) : tickR (L.take (k + 1)) = tickR (L.take k) ++ (if q.age + 1 ≤ 600 then [older q] else []) := by
  rw [List.take_add_one, h]
  unfold tickR
  rw [List.map_append, List.filter_append]
  congr 1
  by_cases h6 : q.age + 1 ≤ 600 <;> simp [older, h6]
theorem okB_age : ∀ (L : List Nb) (last : Int), okB last L = true → ∀ q ∈ L, 0 ≤ q.age ∧ q.age ≤ 600 ∧ ipB q.ip = true ∧ macB q.mac = true := by
  intro L
  induction L with
  | nil => intro last _ q hq; cases hq
  | cons x r ih =>
    intro last h q hq
    simp only [okB, Bool.and_eq_true, decide_eq_true_eq] at h
    obtain ⟨⟨⟨⟨⟨h1, h2⟩, h3⟩, h4⟩, h5⟩, h6⟩ := h
    rcases List.mem_cons.1 hq with rfl | hq
    · exact ⟨h4, h5, h2, h3⟩
    · exact ih _ h6 q hq
theorem tab_age {L : List Nb} (h : tabB L = true) : ∀ q ∈ L, 0 ≤ q.age ∧ q.age ≤ 600 ∧ ipB q.ip = true ∧ macB q.mac = true := by
  simp only [tabB, Bool.and_eq_true] at h
  exact okB_age L _ h.2
theorem tickR_len (L : List Nb) : (tickR L).length ≤ L.length := by
  unfold tickR
  refine Nat.le_trans (List.length_filter_le _ _) (by simp)
set_option maxRecDepth 100000 in
set_option maxHeartbeats 2000000 in
theorem arpTick_ok (v : Value) (L : List Nb) (w : World) (hv : SlOf w 3 Nb.At v L) (ht : tabB L = true) :
    Calls Try.prog 32 #[v] w fun e w' => ∃ v', e = .returned (.tuple #[v', .int .i64 0]) ∧ NbOwn w' w.heap.size v' (tickR L) ∧ Below w.heap.size w w' := by
  obtain ⟨hr, h16⟩ := tab_rising ht
  have HA := Lib.hid (tab_age ht)
  have C1 := Lib.hid (isTable_any v L w hv (by omega))
  rw [ht] at C1
  obtain ⟨ao, cap, rfl, -, -, -, hB⟩ := hv
  have HB := Lib.hid hB
  obtain ⟨i0, hi, hz0, hz1, hz2⟩ := info_parts infoNeighbour
  clear hr ht hB
  go_enter Try.func32, Try.ntmps32
  go_wp2_with fail
  go_at_call 49
  refine C1.out.mono ?_
  rintro e w1 ⟨rfl, hb⟩
  have HB1 := Lib.hid hb
  clear hb C1
  go_wp2
  go_loopw [4, 6, 12] (fun m p i wr => ∃ (k : Nat), k ≤ L.length ∧ i = .int .i64 k ∧ Below w.heap.size w wr ∧ NbOwn wr w.heap.size m (tickR (L.take k))) (fun _ _ i _ => L.length - (intOf i).toNat)
  case atStart => exact ⟨0, by omega, rfl, HB1.out, NbOwn.nil _ _⟩
  case round =>
    obtain ⟨k, hk, rfl, hbl, hown⟩ := hrel
    by_cases hlt : k < L.length
    · obtain ⟨b, off, rfl, hbw, hBB⟩ := HB.out (by intro h; simp [h] at hlt)
      obtain ⟨q, hq⟩ : ∃ x, L[k]? = some x := ⟨_, List.getElem?_eq_getElem hlt⟩
      obtain ⟨c0, c1, c2⟩ := hBB k q hq
      have d0 := (hbl.cell (p := ⟨b, off + k * 3, none⟩) hbw).trans c0
      have d1 := (hbl.cell (p := ⟨b, off + k * 3 + 1, none⟩) hbw).trans c1
      have d2 := (hbl.cell (p := ⟨b, off + k * 3 + 2, none⟩) hbw).trans c2
      obtain ⟨ha1, ha2, -, -⟩ := HA.out q (List.mem_of_getElem? hq)
      have hsn := tickR_snoc L k q hq
      have HS := Lib.hid hsn
      have hsz := hbl.size
      have hlq := tickR_len (L.take k)
      rw [List.length_take, Nat.min_eq_left (by omega)] at hlq
      clear hBB hq c0 c1 c2 hsn
      unfold NbOwn at hown
      by_cases h6 : q.age + 1 ≤ 600
      · go_wp2_with (first
          | (at_builtin; refine wpList_append_own _ rfl _ _ 48 rfl w.heap.size 61 i0 (.agg #[.int .i64 0, .int .i64 0, .int .i64 0]) 3 24 Try.underlying48 hi hz0 hz1 hz2 rfl (by decide) _ _ _ rfl (below_own hown (by repeat (first | exact Below.refl _ _ | refine Below.drew ?_ | refine bdrew ?_ _ | refine Below.setCell ?_ (by first | (simp; done) | (simp; omega)) _ | refine Below.alloc ?_ (by first | (simp; done) | (simp; omega)) _))) ⟨wr.heap.size + 1, 0, none⟩ 1 1 (rowNeighbour (older q)) rfl rfl ?c1 ?c2 ?c3 ?c4 ?c5 ?_))
        case c1 =>
          intro j u hj
          match j, hj with
          | 0, hj => simp [older] at hj; subst hj; simp [Addr.add]
          | 1, hj => simp [older] at hj; subst hj; simp [Addr.add]
          | 2, hj => simp [older] at hj; subst hj; simp [Addr.add]
          | j + 3, hj => simp at hj
        case c2 => intro u hu; simp at hu; rcases hu with rfl | rfl | rfl <;> rfl
        case c3 => unfold maxLen; omega
        case c4 => omega
        case c5 => simp; omega
        intro v' W1 hown' hgrow _
        have hb2 : Below w.heap.size w W1 := ((hbl.alloc hsz _).alloc (by simp; omega) _).grown hgrow (by simp; omega) (by intro k hk; exact (hown.lt k hk).1)
        have ho2 : NbOwn W1 w.heap.size v' (tickR (L.take (k + 1))) := by
          rw [HS.out, if_pos h6]
          unfold NbOwn
          rw [List.length_append, List.map_append, List.flatten_append]
          simpa using hown'
        clear hown' hgrow hown
        go_wp2
        go_roundw
        case rel => exact ⟨k + 1, by omega, by go_num, hb2, ho2⟩
        case measure => simp [intOf]; omega
      · go_wp2
        go_roundw
        case rel => exact ⟨k + 1, by omega, by go_num, hbl.alloc hsz _, by rw [HS.out, if_neg h6, List.append_nil]; exact NbOwn.below hown (by repeat (first | exact Below.refl _ _ | refine Below.drew ?_ | refine bdrew ?_ _ | refine Below.setCell ?_ (by first | (simp; done) | (simp; omega)) _ | refine Below.alloc ?_ (by first | (simp; done) | (simp; omega)) _))⟩
        case measure => simp [intOf]; omega
    · obtain rfl : k = L.length := by omega
      rw [List.take_length] at hown
      clear HB
      go_wp2
      go_ret2
      exact ⟨_, rfl, hown, hbl⟩
set_option maxRecDepth 100000 in
theorem arpTick_bad (v : Value) (L : List Nb) (w : World) (hv : SlOf w 3 Nb.At v L) (hl : L.length ≤ 140737488351232) (ht : tabB L = false) :
    Calls Try.prog 32 #[v] w fun e w' => e = .returned (.tuple #[.slice none 0 0, .int .i64 1]) ∧ Below w.heap.size w w' := by
  have C1 := Lib.hid (isTable_any v L w hv hl)
  rw [ht] at C1
  obtain ⟨ao, cap, rfl, -, -, -, -⟩ := hv
  clear ht
  go_enter Try.func32, Try.ntmps32
  go_wp2_with fail
  go_at_call 49
  refine C1.out.mono ?_
  rintro e w1 ⟨rfl, hb⟩
  go_wp2
  go_ret2
  exact ⟨rfl, hb⟩
set_option maxRecDepth 100000 in
set_option maxHeartbeats 2000000 in
theorem refTick_any (v : Value) (L : List Nb) (w : World) (hv : SlOf w 3 Nb.At v L) (ht : tabB L = true) :
    Calls Try.prog 31 #[v] w fun e w' => ∃ v', e = .returned v' ∧ NbOwn w' w.heap.size v' (tickR L) ∧ Below w.heap.size w w' := by
  obtain ⟨hr, h16⟩ := tab_rising ht
  have HA := Lib.hid (tab_age ht)
  obtain ⟨ao, cap, rfl, -, -, -, hB⟩ := hv
  have HB := Lib.hid hB
  obtain ⟨i0, hi, hz0, hz1, hz2⟩ := info_parts infoNeighbour
  clear hr ht hB
  go_enter Try.func31, Try.ntmps31
  go_wp2
  go_loopw [3, 4, 5] (fun m i p wr => ∃ (k : Nat), k ≤ L.length ∧ i = .int .i64 k ∧ Below w.heap.size w wr ∧ NbOwn wr w.heap.size m (tickR (L.take k))) (fun _ i _ _ => L.length - (intOf i).toNat)
  case atStart => exact ⟨0, by omega, rfl, Below.refl _ _, NbOwn.nil _ _⟩
  case round =>
    obtain ⟨k, hk, rfl, hbl, hown⟩ := hrel
    by_cases hlt : k < L.length
    · obtain ⟨b, off, rfl, hbw, hBB⟩ := HB.out (by intro h; simp [h] at hlt)
      obtain ⟨q, hq⟩ : ∃ x, L[k]? = some x := ⟨_, List.getElem?_eq_getElem hlt⟩
      obtain ⟨c0, c1, c2⟩ := hBB k q hq
      have d0 := (hbl.cell (p := ⟨b, off + k * 3, none⟩) hbw).trans c0
      have d1 := (hbl.cell (p := ⟨b, off + k * 3 + 1, none⟩) hbw).trans c1
      have d2 := (hbl.cell (p := ⟨b, off + k * 3 + 2, none⟩) hbw).trans c2
      obtain ⟨ha1, ha2, -, -⟩ := HA.out q (List.mem_of_getElem? hq)
      have hsn := tickR_snoc L k q hq
      have HS := Lib.hid hsn
      have hsz := hbl.size
      have hlq := tickR_len (L.take k)
      rw [List.length_take, Nat.min_eq_left (by omega)] at hlq
      clear hBB hq c0 c1 c2 hsn
      unfold NbOwn at hown
      by_cases h6 : q.age + 1 ≤ 600
      · go_wp2_with (first
          | (at_builtin; refine wpList_append_own _ rfl _ _ 48 rfl w.heap.size 61 i0 (.agg #[.int .i64 0, .int .i64 0, .int .i64 0]) 3 24 Try.underlying48 hi hz0 hz1 hz2 rfl (by decide) _ _ _ rfl (below_own hown (by repeat (first | exact Below.refl _ _ | refine Below.drew ?_ | refine bdrew ?_ _ | refine Below.setCell ?_ (by first | (simp; done) | (simp; omega)) _ | refine Below.alloc ?_ (by first | (simp; done) | (simp; omega)) _))) ⟨wr.heap.size + 1, 0, none⟩ 1 1 (rowNeighbour (older q)) rfl rfl ?c1 ?c2 ?c3 ?c4 ?c5 ?_))
        case c1 =>
          intro j u hj
          match j, hj with
          | 0, hj => simp [older] at hj; subst hj; simp [Addr.add]
          | 1, hj => simp [older] at hj; subst hj; simp [Addr.add]
          | 2, hj => simp [older] at hj; subst hj; simp [Addr.add]
          | j + 3, hj => simp at hj
        case c2 => intro u hu; simp at hu; rcases hu with rfl | rfl | rfl <;> rfl
        case c3 => unfold maxLen; omega
        case c4 => omega
        case c5 => simp; omega
        intro v' W1 hown' hgrow _
        have hb2 : Below w.heap.size w W1 := ((hbl.alloc hsz _).alloc (by simp; omega) _).grown hgrow (by simp; omega) (by intro k hk; exact (hown.lt k hk).1)
        have ho2 : NbOwn W1 w.heap.size v' (tickR (L.take (k + 1))) := by
          rw [HS.out, if_pos h6]
          unfold NbOwn
          rw [List.length_append, List.map_append, List.flatten_append]
          simpa using hown'
        clear hown' hgrow hown
        go_wp2
        go_roundw
        case rel => exact ⟨k + 1, by omega, by go_num, hb2, ho2⟩
        case measure => simp [intOf]; omega
      · go_wp2
        go_roundw
        case rel => exact ⟨k + 1, by omega, by go_num, hbl.alloc hsz _, by rw [HS.out, if_neg h6, List.append_nil]; exact NbOwn.below hown (by repeat (first | exact Below.refl _ _ | refine Below.drew ?_ | refine bdrew ?_ _ | refine Below.setCell ?_ (by first | (simp; done) | (simp; omega)) _ | refine Below.alloc ?_ (by first | (simp; done) | (simp; omega)) _))⟩
        case measure => simp [intOf]; omega
    · obtain rfl : k = L.length := by omega
      rw [List.take_length] at hown
      clear HB
      go_wp2
      go_ret
      exact ⟨_, rfl, hown, hbl⟩
/-- The place of one, by its address: the reference's. -/
def whereN (L : List Nb) (t : Int) : Int := match L.findIdx? (fun q => q.ip == t) with | some i => (i : Int) | none => -1
theorem whereN_at {L : List Nb} {t : Int} {k : Nat} {q : Nb} (hq : L[k]? = some q) (he : q.ip = t) (hn : ∀ (j : Nat) (p : Nb), j < k → L[j]? = some p → p.ip ≠ t) : whereN L t = k := by
  unfold whereN
  have : L.findIdx? (fun q => q.ip == t) = some k := by
    obtain ⟨hk, rfl⟩ := List.getElem?_eq_some_iff.1 hq
    rw [List.findIdx?_eq_some_iff_getElem]
    refine ⟨hk, by simpa using he, fun j hj => ?_⟩
    have := hn j _ hj (List.getElem?_eq_getElem (by omega))
    simpa using this
  rw [this]
theorem whereN_none {L : List Nb} {t : Int} (hn : ∀ (j : Nat) (p : Nb), L[j]? = some p → p.ip ≠ t) : whereN L t = -1 := by
  unfold whereN
  have : L.findIdx? (fun q => q.ip == t) = none := by
    rw [List.findIdx?_eq_none_iff]
    intro q hq
    obtain ⟨j, hj⟩ := List.getElem?_of_mem hq
    have := hn j q hj
    simpa using this
  rw [this]
set_option maxRecDepth 100000 in
set_option maxHeartbeats 2000000 in
theorem refFind_any (v : Value) (L : List Nb) (t : Int) (w : World) (hv : SlOf w 3 Nb.At v L) (hl : L.length ≤ 140737488351232) :
    Calls Try.prog 29 #[v, .int .i64 t] w fun e w' => e = .returned (.int .i64 (whereN L t)) ∧ w = w' := by
  obtain ⟨ao, cap, rfl, -, -, -, hB⟩ := hv
  have HB := Lib.hid hB
  clear hB
  go_enter Try.func29, Try.ntmps29
  go_wp2
  go_loop [5] (fun i => ∃ (k : Nat), k ≤ L.length ∧ i = .int .i64 k ∧ (∀ (j : Nat) (p : Nb), j < k → L[j]? = some p → p.ip ≠ t)) (fun i => L.length - (intOf i).toNat)
  case atStart => exact ⟨0, by omega, rfl, fun j p h => by omega⟩
  case round =>
    obtain ⟨k, hk, rfl, hn⟩ := hrel
    have HN := Lib.hid hn
    clear hn
    by_cases hlt : k < L.length
    · obtain ⟨b, off, rfl, hbw, hBB⟩ := HB.out (by intro h; simp [h] at hlt)
      obtain ⟨q, hq⟩ : ∃ x, L[k]? = some x := ⟨_, List.getElem?_eq_getElem hlt⟩
      obtain ⟨c0, -, -⟩ := hBB k q hq
      have HQ := Lib.hid hq
      clear hBB hq
      by_cases he : q.ip = t
      · have hb : (q.ip == t) = true := by simpa using he
        have HF := Lib.hid (whereN_at HQ.out he HN.out)
        clear he
        go_wp2
        go_ret
        exact ⟨by rw [HF.out]; rfl, rfl⟩
      · have hb : (q.ip == t) = false := by simpa using he
        have HE := Lib.hid he
        clear he
        go_wp2
        go_round
        case rel =>
          refine ⟨k + 1, by omega, by go_num, fun j p hj hp => ?_⟩
          rcases Nat.lt_or_ge j k with h | h
          · exact HN.out j p h hp
          · obtain rfl : j = k := by omega
            rw [HQ.out] at hp; injection hp with hp; subst hp; exact HE.out
        case measure => simp [intOf]; omega
    · have HF := Lib.hid (whereN_none (L := L) (t := t) fun j p hp => HN.out j p (by have := (List.getElem?_eq_some_iff.1 hp).1; omega) hp)
      clear HB
      go_wp2
      go_ret
      exact ⟨by rw [HF.out]; rfl, rfl⟩
/-- Who was silent longest, of the first k. -/
def oldN (L : List Nb) : Nat → Nat
  | 0 => 0
  | k + 1 => if (L.getD (oldN L k) ⟨0, 0, 0⟩).age < (L.getD k ⟨0, 0, 0⟩).age then k else oldN L k
theorem oldN_le (L : List Nb) : ∀ k, oldN L k ≤ k - 1 := by
  intro k
  induction k with
  | zero => exact Nat.le_refl _
  | succ k ih => unfold oldN; split <;> omega
theorem oldN_yes {L : List Nb} {k : Nat} {p q : Nb} (h1 : L[oldN L k]? = some p) (h2 : L[k]? = some q) (h : p.age < q.age) : oldN L (k + 1) = k := by
  unfold oldN; rw [List.getD_eq_getElem?_getD, List.getD_eq_getElem?_getD, h1, h2]; exact if_pos h
theorem oldN_no {L : List Nb} {k : Nat} {p q : Nb} (h1 : L[oldN L k]? = some p) (h2 : L[k]? = some q) (h : ¬ p.age < q.age) : oldN L (k + 1) = oldN L k := by
  rw [show oldN L (k + 1) = if (L.getD (oldN L k) ⟨0, 0, 0⟩).age < (L.getD k ⟨0, 0, 0⟩).age then k else oldN L k from rfl]; rw [List.getD_eq_getElem?_getD, List.getD_eq_getElem?_getD, h1, h2]; exact if_neg h
set_option maxRecDepth 100000 in
set_option maxHeartbeats 2000000 in
theorem oldest_any (base : Nat) (v : Value) (L : List Nb) (w : World) (hown : NbOwn w base v L) (hbase : base ≤ w.heap.size) (hne : 0 < L.length) (hl : L.length ≤ 1000) :
    Calls Try.prog 52 #[v] w fun e w' => ∃ v', e = .returned v' ∧ NbOwn w' base v' (L.eraseIdx (oldN L L.length)) ∧ Below base w w' := by
  obtain ⟨ao, cap, rfl, -, -, -, hB⟩ := hown.of
  have HB := Lib.hid hB
  have HO := Lib.hid hown
  clear hB hown
  go_enter Try.func52, Try.ntmps52
  go_wp2
  go_loopw [3, 4, 5, 8] (fun o i0 p i wr => ∃ (k : Nat), k ≤ L.length ∧ i = .int .i64 k ∧ o = .int .i64 (oldN L k) ∧ Below w.heap.size w wr) (fun _ _ _ i _ => L.length - (intOf i).toNat)
  case atStart => exact ⟨0, by omega, rfl, rfl, Below.refl _ _⟩
  case round =>
    obtain ⟨k, hk, rfl, rfl, hbl⟩ := hrel
    by_cases hlt : k < L.length
    · obtain ⟨b, off, rfl, hbw, hBB⟩ := HB.out (by intro h; simp [h] at hlt)
      obtain ⟨q, hq⟩ : ∃ x, L[k]? = some x := ⟨_, List.getElem?_eq_getElem hlt⟩
      have hol := oldN_le L k
      obtain ⟨p, hp⟩ : ∃ x, L[oldN L k]? = some x := ⟨_, List.getElem?_eq_getElem (by omega)⟩
      obtain ⟨c0, c1, c2⟩ := hBB k q hq
      obtain ⟨-, -, g2⟩ := hBB _ p hp
      have hsz := hbl.size
      obtain ⟨W1, hW1⟩ : ∃ W1, W1 = wr.alloc (.cells #[.int .i64 q.ip, .int .i64 q.mac, .int .i64 q.age] 61) := ⟨_, rfl⟩
      have d0 := (hbl.cell (p := ⟨b, off + k * 3, none⟩) hbw).trans c0
      have d1 := (hbl.cell (p := ⟨b, off + k * 3 + 1, none⟩) hbw).trans c1
      have d2 := (hbl.cell (p := ⟨b, off + k * 3 + 2, none⟩) hbw).trans c2
      have e2 := (hbl.cell (p := ⟨b, off + oldN L k * 3 + 2, none⟩) hbw).trans g2
      have hok : oldN L k < L.length := by omega
      by_cases h6 : p.age < q.age
      · have HS := Lib.hid (oldN_yes hp hq h6)
        generalize oldN L k = o at *
        have e3 : (wr.alloc (.cells #[.int .i64 q.ip, .int .i64 q.mac, .int .i64 q.age] 61)).cell? ⟨b, off + o * 3 + 2, none⟩ = some (.int .i64 p.age) :=
          (((Below.refl _ wr).alloc (Nat.le_refl _) _).cell (p := ⟨b, off + o * 3 + 2, none⟩) (Nat.lt_of_lt_of_le hbw hsz)).trans e2
        clear hBB hq c0 c1 c2 hp g2 hW1
        go_wp2
        go_quiet (fail)
        go_wp2
        go_roundw
        case rel => exact ⟨k + 1, by omega, by go_num, by rw [HS.out], bdrew (hbl.alloc hsz _) _⟩
        case measure => simp [intOf]; omega
      · have HS := Lib.hid (oldN_no hp hq h6)
        generalize oldN L k = o at *
        have e3 : (wr.alloc (.cells #[.int .i64 q.ip, .int .i64 q.mac, .int .i64 q.age] 61)).cell? ⟨b, off + o * 3 + 2, none⟩ = some (.int .i64 p.age) :=
          (((Below.refl _ wr).alloc (Nat.le_refl _) _).cell (p := ⟨b, off + o * 3 + 2, none⟩) (Nat.lt_of_lt_of_le hbw hsz)).trans e2
        clear hBB hq c0 c1 c2 hp g2 hW1
        go_wp2
        go_quiet (fail)
        go_wp2
        go_roundw
        case rel => exact ⟨k + 1, by omega, by go_num, by rw [HS.out], bdrew (hbl.alloc hsz _) _⟩
        case measure => simp [intOf]; omega
    · obtain rfl : k = L.length := by omega
      have hol := oldN_le L L.length
      have HO1 := Lib.hid (HO.out.below hbl)
      have C1 := Lib.hid (nbDelete_any base (oldN L L.length) _ L wr HO1.out (by omega))
      go_wp2_with fail
      refine (show Calls _ _ #[_, _, .int .i64 ((oldN L L.length : Int) + 1)] _ _ from C1.out).mono ?_
      rintro e w1 ⟨v1, rfl, ho1, hg1⟩
      have hb1 := grew_below hg1 (Nat.le_trans hbase hbl.size) (fun k hk => (HO1.out.lt k hk).1)
      have HD := Lib.hid ho1
      clear hg1 ho1
      go_wp2
      go_ret
      exact ⟨_, rfl, HD.out, (below_low hbl hbase).trans hb1⟩
end Go.Proofs.Ytcomaacfhfnipaa
