/-
  Neighbours: behind learning and ticking they are a table again; who was heard of is found (no walks).
-/
import Derived.Test.YtcomaacfhfnipaaArpK
namespace Go.Proofs.Ytcomaacfhfnipaa
open Go.RowKit
def okN (q : Nb) : Prop := ipB q.ip = true ∧ macB q.mac = true ∧ 0 ≤ q.age ∧ q.age ≤ 600
theorem okB_of : ∀ (L : List Nb) (last : Int), (∀ q ∈ L, last < q.ip) → Rising L → (∀ q ∈ L, okN q) → okB last L = true := by
  intro L
  induction L with
  | nil => intro last _ _ _; rfl
  | cons x r ih =>
    intro last h1 h2 h3
    obtain ⟨hr, hx⟩ := rising_tail h2
    obtain ⟨a, b, c, d⟩ := h3 x (by simp)
    have := ih x.ip hx hr (fun q hq => h3 q (List.mem_cons_of_mem _ hq))
    simp [okB, h1 x (by simp), a, b, c, d, this]
theorem tab_of {L : List Nb} (h16 : L.length ≤ 16) (hr : Rising L) (h : ∀ q ∈ L, okN q) : tabB L = true := by
  rw [tabB_short h16]
  refine okB_of L _ (fun q hq => ?_) hr h
  have := (h q hq).1
  simp only [ipB, decide_eq_true_eq] at this; omega
theorem tab_ok {L : List Nb} (h : tabB L = true) : ∀ q ∈ L, okN q := fun q hq => by
  obtain ⟨a, b, c, d⟩ := tab_age h q hq; exact ⟨c, d, a, b⟩
theorem rising_pair {L : List Nb} : Rising L ↔ L.Pairwise (fun p q => p.ip < q.ip) := by
  rw [List.pairwise_iff_getElem]
  constructor
  · intro h i j hi hj hij
    exact h i j _ _ (List.getElem?_eq_getElem hi) (List.getElem?_eq_getElem hj) hij
  · intro h i j p q hp hq hij
    obtain ⟨hi, rfl⟩ := List.getElem?_eq_some_iff.1 hp
    obtain ⟨hj, rfl⟩ := List.getElem?_eq_some_iff.1 hq
    exact h i j hi hj hij
theorem tab_tick {L : List Nb} (h : tabB L = true) : tabB (tickR L) = true := by
  obtain ⟨hr, h16⟩ := tab_rising h
  refine tab_of (Nat.le_trans (tickR_len L) h16) ?_ ?_
  · rw [rising_pair] at *
    unfold tickR
    refine List.Pairwise.filter _ ?_
    rw [List.pairwise_map]
    exact hr.imp fun hpq => hpq
  · intro q hq
    unfold tickR at hq
    rw [List.mem_filter] at hq
    obtain ⟨hq, h6⟩ := hq
    obtain ⟨p, hp, rfl⟩ := List.mem_map.1 hq
    obtain ⟨a, b, c, d⟩ := tab_ok h p hp
    exact ⟨a, b, by show 0 ≤ p.age + 1; omega, by simpa using h6⟩
theorem dropd_mem {L : List Nb} {t : Int} : ∀ q ∈ dropd L t, q ∈ L := by
  intro q hq
  unfold dropd at hq
  split at hq
  · exact List.mem_of_mem_eraseIdx hq
  · split at hq
    · exact List.mem_of_mem_eraseIdx hq
    · exact hq
theorem dropd_ne {L : List Nb} {t : Int} (hr : Rising L) : ∀ q ∈ dropd L t, q.ip ≠ t := by
  intro q hq he
  by_cases hw : whereN L t = -1
  · have hm := dropd_mem q hq
    unfold whereN at hw
    split at hw
    · omega
    · rename_i hn
      rw [List.findIdx?_eq_none_iff] at hn
      have := hn q hm
      simp_all
  · obtain ⟨i, p, hi, hp, hpt⟩ := whereN_some hw
    unfold dropd at hq
    rw [hi, if_pos (by omega), Int.toNat_natCast] at hq
    obtain ⟨j, hj⟩ := List.getElem?_of_mem hq
    rw [List.getElem?_eraseIdx] at hj
    split at hj
    · have := hr j i q p hj hp (by omega); omega
    · have := hr i (j + 1) p q hp hj (by omega); omega
theorem dropd_rising {L : List Nb} {t : Int} (hr : Rising L) : Rising (dropd L t) := by
  unfold dropd
  split
  · exact rising_erase hr _
  · split
    · exact rising_erase hr _
    · exact hr
theorem dropd_len {L : List Nb} {t : Int} (h : L.length ≤ 16) : (dropd L t).length ≤ 15 := by
  unfold dropd
  split
  · rename_i h0
    rcases whereN_range L t with h1 | ⟨i, h1, h2⟩
    · omega
    · rw [h1, Int.toNat_natCast, List.length_eraseIdx, if_pos h2]; omega
  · split
    · have := oldN_le L L.length
      rw [List.length_eraseIdx, if_pos (by omega)]; omega
    · omega
theorem less_more_len (X : List Nb) (t : Int) : (lessL X t).length + (moreL X t).length = X.length := by
  unfold lessL moreL
  induction X with
  | nil => rfl
  | cons q r ih =>
    by_cases h : q.ip < t
    · have h2 : ¬ t ≤ q.ip := by omega
      simp [h, h2]; omega
    · have h2 : t ≤ q.ip := by omega
      simp [h, h2]; omega
theorem learn_rising {L : List Nb} {t m : Int} (hr : Rising L) : Rising (learnL L t m) := by
  have hd := dropd_rising (t := t) hr
  have hn := dropd_ne (t := t) hr
  unfold learnL
  generalize dropd L t = X at *
  rw [rising_pair] at *
  rw [List.pairwise_append, List.pairwise_cons]
  refine ⟨hd.filter _, ⟨?_, hd.filter _⟩, ?_⟩
  · intro q hq
    unfold moreL at hq
    rw [List.mem_filter] at hq
    have h1 := hn q hq.1
    have h2 : t ≤ q.ip := by simpa using hq.2
    show t < q.ip
    omega
  · intro p hp q hq
    unfold lessL at hp
    rw [List.mem_filter] at hp
    have h1 : p.ip < t := by simpa using hp.2
    rcases List.mem_cons.1 hq with rfl | hq
    · exact h1
    · unfold moreL at hq
      rw [List.mem_filter] at hq
      have h2 : t ≤ q.ip := by simpa using hq.2
      omega
theorem tab_learn {L : List Nb} {t m : Int} (h : tabB L = true) (ht : ipB t = true) (hm : macB m = true) : tabB (learnL L t m) = true := by
  obtain ⟨hr, h16⟩ := tab_rising h
  refine tab_of ?_ (learn_rising hr) ?_
  · have h1 := dropd_len (t := t) h16
    have h2 := less_more_len (dropd L t) t
    unfold learnL
    rw [List.length_append, List.length_cons]; omega
  · intro q hq
    unfold learnL at hq
    rcases List.mem_append.1 hq with hq | hq
    · unfold lessL at hq
      exact tab_ok h q (dropd_mem q (List.mem_filter.1 hq).1)
    · rcases List.mem_cons.1 hq with rfl | hq
      · exact ⟨ht, hm, by show (0 : Int) ≤ 0; omega, by show (0 : Int) ≤ 600; omega⟩
      · unfold moreL at hq
        exact tab_ok h q (dropd_mem q (List.mem_filter.1 hq).1)
theorem learn_place {L : List Nb} {t m : Int} : Place (learnL L t m) t (lessL (dropd L t) t).length true := by
  unfold learnL
  have h1 : ∀ q ∈ lessL (dropd L t) t, q.ip < t := fun q hq => by unfold lessL at hq; simpa using (List.mem_filter.1 hq).2
  have h2 : ∀ q ∈ moreL (dropd L t) t, t ≤ q.ip := fun q hq => by unfold moreL at hq; simpa using (List.mem_filter.1 hq).2
  generalize lessL (dropd L t) t = A at *
  generalize moreL (dropd L t) t = B at *
  refine ⟨by simp, fun k q hk hlt => ?_, fun k q hk hle => ?_, ⟨fun _ => ⟨newNb t m, by simp, rfl⟩, fun _ => rfl⟩⟩
  · rw [List.getElem?_append_left hlt] at hk
    exact h1 q (List.mem_of_getElem? hk)
  · rw [List.getElem?_append_right hle] at hk
    rcases List.mem_cons.1 (List.mem_of_getElem? hk) with rfl | h
    · exact Int.le_refl _
    · exact h2 q h
theorem learn_again {L : List Nb} {t m m2 : Int} : (learnL (learnL L t m) t m2).length = (learnL L t m).length := by
  rw [← learn_known (learn_place (L := L) (t := t) (m := m)), List.length_set]
theorem learn_found {L : List Nb} {t m : Int} (h : tabB (learnL L t m) = true) : findR (learnL L t m) t = (m, 0) := by
  obtain ⟨q, hq, he⟩ := (learn_place (L := L) (t := t) (m := m)).2.2.2.1 rfl
  have : q = newNb t m := by
    unfold learnL at hq
    rw [List.getElem?_append_right (Nat.le_refl _)] at hq
    simpa using hq.symm
  rw [findR_some h hq he, this]
/-! what ArpLast runs through -/
def lastS : Nat → List Nb
  | 0 => []
  | i + 1 => tickR (learnL (lastS i) (100 - (i : Int)) i)
def lastX : Nat → List Nb
  | 0 => learnL (lastS 21) 84 777
  | i + 1 => tickR (lastX i)
theorem lastS_tab : ∀ i, i ≤ 50 → tabB (lastS i) = true := by
  intro i
  induction i with
  | zero => intro _; rfl
  | succ i ih => intro h; exact tab_tick (tab_learn (ih (by omega)) (by simp only [ipB, decide_eq_true_eq]; omega) (by simp only [macB, decide_eq_true_eq]; omega))
theorem lastX_tab : ∀ i, tabB (lastX i) = true := by
  intro i
  induction i with
  | zero => exact tab_learn (lastS_tab 21 (by decide)) (by decide) (by decide)
  | succ i ih => exact tab_tick ih
theorem lastS_len : ∀ i, i < 21 → (learnL (lastS i) (100 - (i : Int)) i).length = min (i + 1) 16 := by decide +kernel
theorem lastS_find : ∀ i, i < 21 → ∀ k : Nat, k < i + 1 → findR (lastS (i + 1)) (100 - (k : Int)) = if i < k + 16 then ((k : Int), 0) else (0, 3) := by decide +kernel
theorem lastX_zero : findR (lastX 0) 84 = (777, 0) ∧ (lastX 0).length = 16 := by decide +kernel
theorem lastX_end : lastX 600 = [⟨84, 777, 600⟩] := by decide +kernel
theorem lastX_after : findR (lastX 600) 84 = (777, 0) ∧ (lastX 600).length = 1 ∧ (tickR (lastX 600)).length = 0 := by rw [lastX_end]; decide +kernel
end Go.Proofs.Ytcomaacfhfnipaa
