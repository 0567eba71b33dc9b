/-
  The law TopicLevels: Of ten names, each filter of a table of ten matches just those that the table says, and eight texts are no filters: whatever asks are handed in, the law answers true.
-/
import Derived.Test.YtpbpbjnkdgdnpaaDoorTie
import Derived.Test.YtpbpbjnkdgdnpaaDoorCards
import Derived.SevenTiedAt
import Derived.ProofKit
import Derived.LaidMore
import Derived.OpenShut
import Derived.Stop.Joined
import Derived.Lay
import Derived.MakeChecks
import Derived.LaidOnce
/-
  Topics: which filters match which names, out of a table.
-/
import Derived.Test.YtpbpbjnkdgdnpaaDoorTopJ
namespace Go.Proofs.YtpbpbjnkdgdnpaaDoor
open Go.RowKit Go.Lib
def NMS : List Bs := [[97], [98], [97, 47, 97], [97, 47, 98], [98, 47, 97], [97, 47, 97, 47, 97], [97, 47, 98, 47, 97], [47], [97, 47], [47, 97]]
def ROWS : List (Bs × List Nat) := [([43], [0, 1]), ([97, 47, 43], [2, 3, 8]), ([43, 47, 97], [2, 4, 9]), ([43, 47, 43], [2, 3, 4, 7, 8, 9]), ([97, 47, 35], [0, 2, 3, 5, 6, 8]), ([43, 47, 35], [0, 1, 2, 3, 4, 5, 6, 7, 8, 9]), ([97, 47, 43, 47, 97], [5, 6]), ([47, 43], [7, 9]), ([35], [0, 1, 2, 3, 4, 5, 6, 7, 8, 9]), ([43, 47, 98, 47, 35], [3, 6])]
def BADS : List Bs := [[97, 35], [35, 47, 97], [97, 47, 35, 47, 98], [43, 97], [97, 43, 47, 98], [], [97, 47, 43, 43], [35, 35]]
theorem rows_fact : (ROWS.all fun r => filtB r.1 && (decide (r.1.length ≤ 10) && (decide (r.2.length ≤ 10) && (List.range 10).all fun k => nameB (NMS.getD k []) && (decide ((NMS.getD k []).length ≤ 10) && (matchB r.1 (NMS.getD k []) == r.2.contains k))))) = true := by decide +kernel
theorem bads_fact : (BADS.all fun f => !filtB f && decide (f.length ≤ 10)) = true := by decide +kernel
theorem row_fact {i k : Nat} {f : Bs} {want : List Nat} {n : Bs} (hi : ROWS[i]? = some (f, want)) (hk : NMS[k]? = some n) :
    matchB f n = want.contains k ∧ filtB f = true ∧ nameB n = true ∧ f.length ≤ 10 ∧ n.length ≤ 10 ∧ want.length ≤ 10 := by
  have h1 := List.all_eq_true.1 rows_fact _ (List.mem_of_getElem? hi)
  have hk10 : k < 10 := by
    rcases Nat.lt_or_ge k 10 with h | h
    · exact h
    · rw [List.getElem?_eq_none (show NMS.length ≤ k from h)] at hk; cases hk
  have hg : NMS.getD k [] = n := by rw [List.getD_eq_getElem?_getD, hk]; rfl
  simp only [Bool.and_eq_true, decide_eq_true_eq] at h1
  obtain ⟨a, b, c, d⟩ := h1
  have d1 := List.all_eq_true.1 d k (List.mem_range.2 hk10)
  rw [hg] at d1
  simp only [Bool.and_eq_true, decide_eq_true_eq] at d1
  obtain ⟨e, f', g⟩ := d1
  exact ⟨eq_of_beq g, a, e, b, f', c⟩
theorem bad_fact {j : Nat} {f : Bs} (hj : BADS[j]? = some f) : filtB f = false ∧ f.length ≤ 10 := by
  have h1 := List.all_eq_true.1 bads_fact _ (List.mem_of_getElem? hj)
  simp only [Bool.and_eq_true, decide_eq_true_eq, Bool.not_eq_true'] at h1
  exact h1
set_option maxRecDepth 100000 in
set_option maxHeartbeats 1000000 in
theorem in20_any (g cap : Nat) (L : List Nat) (k : Nat) (w : World) (hL : L.length ≤ 10) (_hc : L.length ≤ cap) (hf : ∀ (j n : Nat), L[j]? = some n → w.cell? ⟨g, j, none⟩ = some (.int .i64 (n : Nat))) :
    Calls Tryd.prog 16 #[.slice (some ⟨g, 0, none⟩) L.length cap, .int .i64 k] w fun e w' => ∃ r, e = .returned (.int .i64 r) ∧ w = w' ∧ decide (0 ≤ r) = L.contains k := by
  generalize hA : L.contains k = ANS
  go_enter Tryd.func16, Tryd.ntmps16
  go_wp2
  go_loopw [5] (fun i wr => ∃ j : Nat, j ≤ L.length ∧ i = .int .i64 j ∧ wr = w ∧ (L.drop j).contains k = ANS) (fun i _ => L.length - (RowKit.intOf i).toNat)
  case atStart => exact ⟨0, by omega, rfl, rfl, hA⟩
  case round =>
    obtain ⟨j, hj, rfl, rfl, hc2⟩ := hrel
    clear hA
    by_cases hlt : j < L.length
    · have hltz : (j : Int) < (L.length : Int) := by omega
      obtain ⟨n, hn⟩ : ∃ n, L[j]? = some n := ⟨_, List.getElem?_eq_getElem hlt⟩
      have f0 := hf j n hn
      have hdrop : L.drop j = n :: L.drop (j + 1) := by
        rw [List.drop_eq_getElem_cons hlt]
        congr 1
        rw [List.getElem?_eq_getElem hlt] at hn
        exact Option.some.inj hn
      rw [hdrop, List.contains_cons] at hc2
      clear hf hdrop hn
      by_cases he : n = k
      · subst he
        have hANS : true = ANS := by rw [← hc2]; simp
        have HA := Lib.hid hANS
        clear hc2 hANS
        go_wp2
        go_ret
        exact ⟨_, rfl, rfl, by rw [← HA.out]; simp⟩
      · have hne : ¬ (n : Int) = (k : Int) := by omega
        have hne' : (k == n) = false := beq_eq_false_iff_ne.2 (fun e => he e.symm)
        rw [hne', Bool.false_or] at hc2
        go_wp2
        go_roundw
        case rel => exact ⟨j + 1, by omega, by go_num, trivial, hc2⟩
        case measure => simp [RowKit.intOf]; omega
    · obtain rfl : j = L.length := by omega
      have hANS : false = ANS := by rw [← hc2, List.drop_length]; rfl
      have HA := Lib.hid hANS
      clear hc2 hANS
      go_wp2
      go_ret
      exact ⟨_, rfl, rfl, by rw [← HA.out]; decide⟩
theorem chain_step (w : World) (cs : Array Value) (t : TypeId) : (w.alloc (.cells cs t)).heap.size = w.heap.size + 1 ∧ (∀ j, (w.alloc (.cells cs t)).cell? ⟨w.heap.size, j, none⟩ = cs[j]?) ∧ Below w.heap.size w (w.alloc (.cells cs t)) := by
  refine ⟨by simp, fun j => ?_, (Below.refl _ _).alloc (Nat.le_refl _) _⟩
  have h : (w.alloc (.cells cs t)).heap[w.heap.size]? = some (.cells cs t) := by
    show (w.heap.push _)[w.heap.size]? = _
    simp
  simp only [World.cell?, h, Option.isSome_none, Bool.false_eq_true, if_false]
theorem arr_int (L : List Nat) (j n : Nat) (h : L[j]? = some n) : ((L.map fun n => Value.int .i64 (n : Nat)).toArray : Array Value)[j]? = some (.int .i64 (n : Nat)) := by simp [h]
theorem arr_txt (L : List Bs) (j : Nat) (x : Bs) (h : L[j]? = some x) : ((L.map fun x => Value.string ⟨x.toArray⟩).toArray : Array Value)[j]? = some (.string ⟨x.toArray⟩) := by simp [h]
/-- What stands in the tables' blocks. -/
def LvFacts (w W : World) : Prop :=
  (∀ (k : Nat) x, NMS[k]? = some x → W.cell? ⟨w.heap.size, k, none⟩ = some (.string ⟨x.toArray⟩)) ∧
  (∀ (i : Nat) f L, ROWS[i]? = some (f, L) → W.cell? ⟨w.heap.size + 1 + 1 + 1 + 1 + 1 + 1 + 1 + 1 + 1 + 1 + 1, i * 2, none⟩ = some (.string ⟨f.toArray⟩) ∧ ∃ g, W.cell? ⟨w.heap.size + 1 + 1 + 1 + 1 + 1 + 1 + 1 + 1 + 1 + 1 + 1, i * 2 + 1, none⟩ = some (.slice (some ⟨g, 0, none⟩) L.length L.length) ∧ ∀ (j : Nat) n, L[j]? = some n → W.cell? ⟨g, j, none⟩ = some (.int .i64 (n : Nat))) ∧
  Below w.heap.size w W
theorem LvFacts.rows {w W : World} (h : LvFacts w W) (i : Nat) (f : Bs) (L : List Nat) (hi : ROWS[i]? = some (f, L)) : W.cell? ⟨w.heap.size + 1 + 1 + 1 + 1 + 1 + 1 + 1 + 1 + 1 + 1 + 1, i * 2, none⟩ = some (.string ⟨f.toArray⟩) := by
  obtain ⟨-, h2, -⟩ := h
  exact (h2 i f L hi).1
theorem LvFacts.nms {w W : World} (h : LvFacts w W) (k : Nat) (x : Bs) (hk : NMS[k]? = some x) : W.cell? ⟨w.heap.size, k, none⟩ = some (.string ⟨x.toArray⟩) := by
  obtain ⟨h1, -, -⟩ := h
  exact h1 k x hk
theorem LvFacts.grew {w W : World} (h : LvFacts w W) : Below w.heap.size w W := by
  obtain ⟨-, -, h3⟩ := h
  exact h3
theorem LvFacts.below {w W W' : World} (h : LvFacts w W) (hb : Below W.heap.size W W') : LvFacts w W' := by
  obtain ⟨h1, h2, h3⟩ := h
  have key : ∀ p v, W.cell? p = some v → W'.cell? p = some v := by
    intro p v hv
    have hp : p.block < W.heap.size := by
      rcases Nat.lt_or_ge p.block W.heap.size with h | h
      · exact h
      · obtain ⟨b, o, sp⟩ := p
        simp [World.cell?, Array.getElem?_eq_none h] at hv
    exact (hb.cell hp).trans hv
  refine ⟨fun k x hk => key _ _ (h1 k x hk), fun i f L hi => ?_, h3.trans (hb.mono h3.size)⟩
  obtain ⟨a, g, b, c⟩ := h2 i f L hi
  exact ⟨key _ _ a, g, key _ _ b, fun j n hj => key _ _ (c j n hj)⟩
set_option maxRecDepth 100000 in
theorem lv_facts (w : World) : LvFacts w ((((((((((((w.alloc (.cells #[.string ⟨#[97]⟩, .string ⟨#[98]⟩, .string ⟨#[97, 47, 97]⟩, .string ⟨#[97, 47, 98]⟩, .string ⟨#[98, 47, 97]⟩, .string ⟨#[97, 47, 97, 47, 97]⟩, .string ⟨#[97, 47, 98, 47, 97]⟩, .string ⟨#[47]⟩, .string ⟨#[97, 47]⟩, .string ⟨#[47, 97]⟩] 9)).alloc (.cells #[.int .i64 0, .int .i64 1] 3)).alloc (.cells #[.int .i64 2, .int .i64 3, .int .i64 8] 3)).alloc (.cells #[.int .i64 2, .int .i64 4, .int .i64 9] 3)).alloc (.cells #[.int .i64 2, .int .i64 3, .int .i64 4, .int .i64 7, .int .i64 8, .int .i64 9] 3)).alloc (.cells #[.int .i64 0, .int .i64 2, .int .i64 3, .int .i64 5, .int .i64 6, .int .i64 8] 3)).alloc (.cells #[.int .i64 0, .int .i64 1, .int .i64 2, .int .i64 3, .int .i64 4, .int .i64 5, .int .i64 6, .int .i64 7, .int .i64 8, .int .i64 9] 3)).alloc (.cells #[.int .i64 5, .int .i64 6] 3)).alloc (.cells #[.int .i64 7, .int .i64 9] 3)).alloc (.cells #[.int .i64 0, .int .i64 1, .int .i64 2, .int .i64 3, .int .i64 4, .int .i64 5, .int .i64 6, .int .i64 7, .int .i64 8, .int .i64 9] 3)).alloc (.cells #[.int .i64 3, .int .i64 6] 3)).alloc (.cells #[.string ⟨#[43]⟩, .slice (some ⟨w.heap.size + 1, 0, none⟩) 2 2, .string ⟨#[97, 47, 43]⟩, .slice (some ⟨w.heap.size + 1 + 1, 0, none⟩) 3 3, .string ⟨#[43, 47, 97]⟩, .slice (some ⟨w.heap.size + 1 + 1 + 1, 0, none⟩) 3 3, .string ⟨#[43, 47, 43]⟩, .slice (some ⟨w.heap.size + 1 + 1 + 1 + 1, 0, none⟩) 6 6, .string ⟨#[97, 47, 35]⟩, .slice (some ⟨w.heap.size + 1 + 1 + 1 + 1 + 1, 0, none⟩) 6 6, .string ⟨#[43, 47, 35]⟩, .slice (some ⟨w.heap.size + 1 + 1 + 1 + 1 + 1 + 1, 0, none⟩) 10 10, .string ⟨#[97, 47, 43, 47, 97]⟩, .slice (some ⟨w.heap.size + 1 + 1 + 1 + 1 + 1 + 1 + 1, 0, none⟩) 2 2, .string ⟨#[47, 43]⟩, .slice (some ⟨w.heap.size + 1 + 1 + 1 + 1 + 1 + 1 + 1 + 1, 0, none⟩) 2 2, .string ⟨#[35]⟩, .slice (some ⟨w.heap.size + 1 + 1 + 1 + 1 + 1 + 1 + 1 + 1 + 1, 0, none⟩) 10 10, .string ⟨#[43, 47, 98, 47, 35]⟩, .slice (some ⟨w.heap.size + 1 + 1 + 1 + 1 + 1 + 1 + 1 + 1 + 1 + 1, 0, none⟩) 2 2] 37)) := by
  obtain ⟨s0, c0, b0⟩ := chain_step w #[.string ⟨#[97]⟩, .string ⟨#[98]⟩, .string ⟨#[97, 47, 97]⟩, .string ⟨#[97, 47, 98]⟩, .string ⟨#[98, 47, 97]⟩, .string ⟨#[97, 47, 97, 47, 97]⟩, .string ⟨#[97, 47, 98, 47, 97]⟩, .string ⟨#[47]⟩, .string ⟨#[97, 47]⟩, .string ⟨#[47, 97]⟩] 9
  generalize hw0 : w.alloc (.cells #[.string ⟨#[97]⟩, .string ⟨#[98]⟩, .string ⟨#[97, 47, 97]⟩, .string ⟨#[97, 47, 98]⟩, .string ⟨#[98, 47, 97]⟩, .string ⟨#[97, 47, 97, 47, 97]⟩, .string ⟨#[97, 47, 98, 47, 97]⟩, .string ⟨#[47]⟩, .string ⟨#[97, 47]⟩, .string ⟨#[47, 97]⟩] 9) = w0 at *
  clear hw0
  obtain ⟨s1, c1, b1⟩ := chain_step w0 #[.int .i64 0, .int .i64 1] 3
  generalize hw1 : w0.alloc (.cells #[.int .i64 0, .int .i64 1] 3) = w1 at *
  clear hw1
  obtain ⟨s2, c2, b2⟩ := chain_step w1 #[.int .i64 2, .int .i64 3, .int .i64 8] 3
  generalize hw2 : w1.alloc (.cells #[.int .i64 2, .int .i64 3, .int .i64 8] 3) = w2 at *
  clear hw2
  obtain ⟨s3, c3, b3⟩ := chain_step w2 #[.int .i64 2, .int .i64 4, .int .i64 9] 3
  generalize hw3 : w2.alloc (.cells #[.int .i64 2, .int .i64 4, .int .i64 9] 3) = w3 at *
  clear hw3
  obtain ⟨s4, c4, b4⟩ := chain_step w3 #[.int .i64 2, .int .i64 3, .int .i64 4, .int .i64 7, .int .i64 8, .int .i64 9] 3
  generalize hw4 : w3.alloc (.cells #[.int .i64 2, .int .i64 3, .int .i64 4, .int .i64 7, .int .i64 8, .int .i64 9] 3) = w4 at *
  clear hw4
  obtain ⟨s5, c5, b5⟩ := chain_step w4 #[.int .i64 0, .int .i64 2, .int .i64 3, .int .i64 5, .int .i64 6, .int .i64 8] 3
  generalize hw5 : w4.alloc (.cells #[.int .i64 0, .int .i64 2, .int .i64 3, .int .i64 5, .int .i64 6, .int .i64 8] 3) = w5 at *
  clear hw5
  obtain ⟨s6, c6, b6⟩ := chain_step w5 #[.int .i64 0, .int .i64 1, .int .i64 2, .int .i64 3, .int .i64 4, .int .i64 5, .int .i64 6, .int .i64 7, .int .i64 8, .int .i64 9] 3
  generalize hw6 : w5.alloc (.cells #[.int .i64 0, .int .i64 1, .int .i64 2, .int .i64 3, .int .i64 4, .int .i64 5, .int .i64 6, .int .i64 7, .int .i64 8, .int .i64 9] 3) = w6 at *
  clear hw6
  obtain ⟨s7, c7, b7⟩ := chain_step w6 #[.int .i64 5, .int .i64 6] 3
  generalize hw7 : w6.alloc (.cells #[.int .i64 5, .int .i64 6] 3) = w7 at *
  clear hw7
  obtain ⟨s8, c8, b8⟩ := chain_step w7 #[.int .i64 7, .int .i64 9] 3
  generalize hw8 : w7.alloc (.cells #[.int .i64 7, .int .i64 9] 3) = w8 at *
  clear hw8
  obtain ⟨s9, c9, b9⟩ := chain_step w8 #[.int .i64 0, .int .i64 1, .int .i64 2, .int .i64 3, .int .i64 4, .int .i64 5, .int .i64 6, .int .i64 7, .int .i64 8, .int .i64 9] 3
  generalize hw9 : w8.alloc (.cells #[.int .i64 0, .int .i64 1, .int .i64 2, .int .i64 3, .int .i64 4, .int .i64 5, .int .i64 6, .int .i64 7, .int .i64 8, .int .i64 9] 3) = w9 at *
  clear hw9
  obtain ⟨s10, c10, b10⟩ := chain_step w9 #[.int .i64 3, .int .i64 6] 3
  generalize hw10 : w9.alloc (.cells #[.int .i64 3, .int .i64 6] 3) = w10 at *
  clear hw10
  obtain ⟨s11, c11, b11⟩ := chain_step w10 #[.string ⟨#[43]⟩, .slice (some ⟨w.heap.size + 1, 0, none⟩) 2 2, .string ⟨#[97, 47, 43]⟩, .slice (some ⟨w.heap.size + 1 + 1, 0, none⟩) 3 3, .string ⟨#[43, 47, 97]⟩, .slice (some ⟨w.heap.size + 1 + 1 + 1, 0, none⟩) 3 3, .string ⟨#[43, 47, 43]⟩, .slice (some ⟨w.heap.size + 1 + 1 + 1 + 1, 0, none⟩) 6 6, .string ⟨#[97, 47, 35]⟩, .slice (some ⟨w.heap.size + 1 + 1 + 1 + 1 + 1, 0, none⟩) 6 6, .string ⟨#[43, 47, 35]⟩, .slice (some ⟨w.heap.size + 1 + 1 + 1 + 1 + 1 + 1, 0, none⟩) 10 10, .string ⟨#[97, 47, 43, 47, 97]⟩, .slice (some ⟨w.heap.size + 1 + 1 + 1 + 1 + 1 + 1 + 1, 0, none⟩) 2 2, .string ⟨#[47, 43]⟩, .slice (some ⟨w.heap.size + 1 + 1 + 1 + 1 + 1 + 1 + 1 + 1, 0, none⟩) 2 2, .string ⟨#[35]⟩, .slice (some ⟨w.heap.size + 1 + 1 + 1 + 1 + 1 + 1 + 1 + 1 + 1, 0, none⟩) 10 10, .string ⟨#[43, 47, 98, 47, 35]⟩, .slice (some ⟨w.heap.size + 1 + 1 + 1 + 1 + 1 + 1 + 1 + 1 + 1 + 1, 0, none⟩) 2 2] 37
  generalize hw11 : w10.alloc (.cells #[.string ⟨#[43]⟩, .slice (some ⟨w.heap.size + 1, 0, none⟩) 2 2, .string ⟨#[97, 47, 43]⟩, .slice (some ⟨w.heap.size + 1 + 1, 0, none⟩) 3 3, .string ⟨#[43, 47, 97]⟩, .slice (some ⟨w.heap.size + 1 + 1 + 1, 0, none⟩) 3 3, .string ⟨#[43, 47, 43]⟩, .slice (some ⟨w.heap.size + 1 + 1 + 1 + 1, 0, none⟩) 6 6, .string ⟨#[97, 47, 35]⟩, .slice (some ⟨w.heap.size + 1 + 1 + 1 + 1 + 1, 0, none⟩) 6 6, .string ⟨#[43, 47, 35]⟩, .slice (some ⟨w.heap.size + 1 + 1 + 1 + 1 + 1 + 1, 0, none⟩) 10 10, .string ⟨#[97, 47, 43, 47, 97]⟩, .slice (some ⟨w.heap.size + 1 + 1 + 1 + 1 + 1 + 1 + 1, 0, none⟩) 2 2, .string ⟨#[47, 43]⟩, .slice (some ⟨w.heap.size + 1 + 1 + 1 + 1 + 1 + 1 + 1 + 1, 0, none⟩) 2 2, .string ⟨#[35]⟩, .slice (some ⟨w.heap.size + 1 + 1 + 1 + 1 + 1 + 1 + 1 + 1 + 1, 0, none⟩) 10 10, .string ⟨#[43, 47, 98, 47, 35]⟩, .slice (some ⟨w.heap.size + 1 + 1 + 1 + 1 + 1 + 1 + 1 + 1 + 1 + 1, 0, none⟩) 2 2] 37) = w11 at *
  clear hw11
  have d11 : Below w11.heap.size w11 w11 := Below.refl _ _
  have d10 : Below w10.heap.size w10 w11 := b11.trans (d11.mono (by omega))
  have d9 : Below w9.heap.size w9 w11 := b10.trans (d10.mono (by omega))
  have d8 : Below w8.heap.size w8 w11 := b9.trans (d9.mono (by omega))
  have d7 : Below w7.heap.size w7 w11 := b8.trans (d8.mono (by omega))
  have d6 : Below w6.heap.size w6 w11 := b7.trans (d7.mono (by omega))
  have d5 : Below w5.heap.size w5 w11 := b6.trans (d6.mono (by omega))
  have d4 : Below w4.heap.size w4 w11 := b5.trans (d5.mono (by omega))
  have d3 : Below w3.heap.size w3 w11 := b4.trans (d4.mono (by omega))
  have d2 : Below w2.heap.size w2 w11 := b3.trans (d3.mono (by omega))
  have d1 : Below w1.heap.size w1 w11 := b2.trans (d2.mono (by omega))
  have d0 : Below w0.heap.size w0 w11 := b1.trans (d1.mono (by omega))
  have base : Below w.heap.size w w11 := b0.trans (d0.mono (by omega))
  have e0 : ∀ j, w11.cell? ⟨w.heap.size, j, none⟩ = (#[.string ⟨#[97]⟩, .string ⟨#[98]⟩, .string ⟨#[97, 47, 97]⟩, .string ⟨#[97, 47, 98]⟩, .string ⟨#[98, 47, 97]⟩, .string ⟨#[97, 47, 97, 47, 97]⟩, .string ⟨#[97, 47, 98, 47, 97]⟩, .string ⟨#[47]⟩, .string ⟨#[97, 47]⟩, .string ⟨#[47, 97]⟩] : Array Value)[j]? := fun j => by
    have q : w.heap.size = w.heap.size := rfl
    rw [← q]
    exact (d0.cell (p := ⟨w.heap.size, j, none⟩) (by show w.heap.size < w0.heap.size; omega)).trans (c0 j)
  have e1 : ∀ j, w11.cell? ⟨w.heap.size + 1, j, none⟩ = (#[.int .i64 0, .int .i64 1] : Array Value)[j]? := fun j => by
    have q : w0.heap.size = w.heap.size + 1 := by omega
    rw [← q]
    exact (d1.cell (p := ⟨w0.heap.size, j, none⟩) (by show w0.heap.size < w1.heap.size; omega)).trans (c1 j)
  have e2 : ∀ j, w11.cell? ⟨w.heap.size + 1 + 1, j, none⟩ = (#[.int .i64 2, .int .i64 3, .int .i64 8] : Array Value)[j]? := fun j => by
    have q : w1.heap.size = w.heap.size + 1 + 1 := by omega
    rw [← q]
    exact (d2.cell (p := ⟨w1.heap.size, j, none⟩) (by show w1.heap.size < w2.heap.size; omega)).trans (c2 j)
  have e3 : ∀ j, w11.cell? ⟨w.heap.size + 1 + 1 + 1, j, none⟩ = (#[.int .i64 2, .int .i64 4, .int .i64 9] : Array Value)[j]? := fun j => by
    have q : w2.heap.size = w.heap.size + 1 + 1 + 1 := by omega
    rw [← q]
    exact (d3.cell (p := ⟨w2.heap.size, j, none⟩) (by show w2.heap.size < w3.heap.size; omega)).trans (c3 j)
  have e4 : ∀ j, w11.cell? ⟨w.heap.size + 1 + 1 + 1 + 1, j, none⟩ = (#[.int .i64 2, .int .i64 3, .int .i64 4, .int .i64 7, .int .i64 8, .int .i64 9] : Array Value)[j]? := fun j => by
    have q : w3.heap.size = w.heap.size + 1 + 1 + 1 + 1 := by omega
    rw [← q]
    exact (d4.cell (p := ⟨w3.heap.size, j, none⟩) (by show w3.heap.size < w4.heap.size; omega)).trans (c4 j)
  have e5 : ∀ j, w11.cell? ⟨w.heap.size + 1 + 1 + 1 + 1 + 1, j, none⟩ = (#[.int .i64 0, .int .i64 2, .int .i64 3, .int .i64 5, .int .i64 6, .int .i64 8] : Array Value)[j]? := fun j => by
    have q : w4.heap.size = w.heap.size + 1 + 1 + 1 + 1 + 1 := by omega
    rw [← q]
    exact (d5.cell (p := ⟨w4.heap.size, j, none⟩) (by show w4.heap.size < w5.heap.size; omega)).trans (c5 j)
  have e6 : ∀ j, w11.cell? ⟨w.heap.size + 1 + 1 + 1 + 1 + 1 + 1, j, none⟩ = (#[.int .i64 0, .int .i64 1, .int .i64 2, .int .i64 3, .int .i64 4, .int .i64 5, .int .i64 6, .int .i64 7, .int .i64 8, .int .i64 9] : Array Value)[j]? := fun j => by
    have q : w5.heap.size = w.heap.size + 1 + 1 + 1 + 1 + 1 + 1 := by omega
    rw [← q]
    exact (d6.cell (p := ⟨w5.heap.size, j, none⟩) (by show w5.heap.size < w6.heap.size; omega)).trans (c6 j)
  have e7 : ∀ j, w11.cell? ⟨w.heap.size + 1 + 1 + 1 + 1 + 1 + 1 + 1, j, none⟩ = (#[.int .i64 5, .int .i64 6] : Array Value)[j]? := fun j => by
    have q : w6.heap.size = w.heap.size + 1 + 1 + 1 + 1 + 1 + 1 + 1 := by omega
    rw [← q]
    exact (d7.cell (p := ⟨w6.heap.size, j, none⟩) (by show w6.heap.size < w7.heap.size; omega)).trans (c7 j)
  have e8 : ∀ j, w11.cell? ⟨w.heap.size + 1 + 1 + 1 + 1 + 1 + 1 + 1 + 1, j, none⟩ = (#[.int .i64 7, .int .i64 9] : Array Value)[j]? := fun j => by
    have q : w7.heap.size = w.heap.size + 1 + 1 + 1 + 1 + 1 + 1 + 1 + 1 := by omega
    rw [← q]
    exact (d8.cell (p := ⟨w7.heap.size, j, none⟩) (by show w7.heap.size < w8.heap.size; omega)).trans (c8 j)
  have e9 : ∀ j, w11.cell? ⟨w.heap.size + 1 + 1 + 1 + 1 + 1 + 1 + 1 + 1 + 1, j, none⟩ = (#[.int .i64 0, .int .i64 1, .int .i64 2, .int .i64 3, .int .i64 4, .int .i64 5, .int .i64 6, .int .i64 7, .int .i64 8, .int .i64 9] : Array Value)[j]? := fun j => by
    have q : w8.heap.size = w.heap.size + 1 + 1 + 1 + 1 + 1 + 1 + 1 + 1 + 1 := by omega
    rw [← q]
    exact (d9.cell (p := ⟨w8.heap.size, j, none⟩) (by show w8.heap.size < w9.heap.size; omega)).trans (c9 j)
  have e10 : ∀ j, w11.cell? ⟨w.heap.size + 1 + 1 + 1 + 1 + 1 + 1 + 1 + 1 + 1 + 1, j, none⟩ = (#[.int .i64 3, .int .i64 6] : Array Value)[j]? := fun j => by
    have q : w9.heap.size = w.heap.size + 1 + 1 + 1 + 1 + 1 + 1 + 1 + 1 + 1 + 1 := by omega
    rw [← q]
    exact (d10.cell (p := ⟨w9.heap.size, j, none⟩) (by show w9.heap.size < w10.heap.size; omega)).trans (c10 j)
  have e11 : ∀ j, w11.cell? ⟨w.heap.size + 1 + 1 + 1 + 1 + 1 + 1 + 1 + 1 + 1 + 1 + 1, j, none⟩ = (#[.string ⟨#[43]⟩, .slice (some ⟨w.heap.size + 1, 0, none⟩) 2 2, .string ⟨#[97, 47, 43]⟩, .slice (some ⟨w.heap.size + 1 + 1, 0, none⟩) 3 3, .string ⟨#[43, 47, 97]⟩, .slice (some ⟨w.heap.size + 1 + 1 + 1, 0, none⟩) 3 3, .string ⟨#[43, 47, 43]⟩, .slice (some ⟨w.heap.size + 1 + 1 + 1 + 1, 0, none⟩) 6 6, .string ⟨#[97, 47, 35]⟩, .slice (some ⟨w.heap.size + 1 + 1 + 1 + 1 + 1, 0, none⟩) 6 6, .string ⟨#[43, 47, 35]⟩, .slice (some ⟨w.heap.size + 1 + 1 + 1 + 1 + 1 + 1, 0, none⟩) 10 10, .string ⟨#[97, 47, 43, 47, 97]⟩, .slice (some ⟨w.heap.size + 1 + 1 + 1 + 1 + 1 + 1 + 1, 0, none⟩) 2 2, .string ⟨#[47, 43]⟩, .slice (some ⟨w.heap.size + 1 + 1 + 1 + 1 + 1 + 1 + 1 + 1, 0, none⟩) 2 2, .string ⟨#[35]⟩, .slice (some ⟨w.heap.size + 1 + 1 + 1 + 1 + 1 + 1 + 1 + 1 + 1, 0, none⟩) 10 10, .string ⟨#[43, 47, 98, 47, 35]⟩, .slice (some ⟨w.heap.size + 1 + 1 + 1 + 1 + 1 + 1 + 1 + 1 + 1 + 1, 0, none⟩) 2 2] : Array Value)[j]? := fun j => by
    have q : w10.heap.size = w.heap.size + 1 + 1 + 1 + 1 + 1 + 1 + 1 + 1 + 1 + 1 + 1 := by omega
    rw [← q]
    exact (d11.cell (p := ⟨w10.heap.size, j, none⟩) (by show w10.heap.size < w11.heap.size; omega)).trans (c11 j)
  refine ⟨fun k x hk => ?_, fun i f L hi => ?_, base⟩
  · rw [e0 k]
    exact (show (#[.string ⟨#[97]⟩, .string ⟨#[98]⟩, .string ⟨#[97, 47, 97]⟩, .string ⟨#[97, 47, 98]⟩, .string ⟨#[98, 47, 97]⟩, .string ⟨#[97, 47, 97, 47, 97]⟩, .string ⟨#[97, 47, 98, 47, 97]⟩, .string ⟨#[47]⟩, .string ⟨#[97, 47]⟩, .string ⟨#[47, 97]⟩] : Array Value)[k]? = some (.string ⟨x.toArray⟩) from arr_txt NMS k x hk)
  · match i, hi with
    | 0, hi =>
      obtain ⟨rfl, rfl⟩ := Prod.mk.inj (Option.some.inj (show some (_, _) = some (f, L) from hi))
      exact ⟨(e11 (0 * 2)).trans rfl, _, (e11 (0 * 2 + 1)).trans rfl, fun j n hj => by
        rw [e1 j]
        exact (show (#[.int .i64 0, .int .i64 1] : Array Value)[j]? = some (.int .i64 (n : Nat)) from arr_int [0, 1] j n hj)⟩
    | 1, hi =>
      obtain ⟨rfl, rfl⟩ := Prod.mk.inj (Option.some.inj (show some (_, _) = some (f, L) from hi))
      exact ⟨(e11 (1 * 2)).trans rfl, _, (e11 (1 * 2 + 1)).trans rfl, fun j n hj => by
        rw [e2 j]
        exact (show (#[.int .i64 2, .int .i64 3, .int .i64 8] : Array Value)[j]? = some (.int .i64 (n : Nat)) from arr_int [2, 3, 8] j n hj)⟩
    | 2, hi =>
      obtain ⟨rfl, rfl⟩ := Prod.mk.inj (Option.some.inj (show some (_, _) = some (f, L) from hi))
      exact ⟨(e11 (2 * 2)).trans rfl, _, (e11 (2 * 2 + 1)).trans rfl, fun j n hj => by
        rw [e3 j]
        exact (show (#[.int .i64 2, .int .i64 4, .int .i64 9] : Array Value)[j]? = some (.int .i64 (n : Nat)) from arr_int [2, 4, 9] j n hj)⟩
    | 3, hi =>
      obtain ⟨rfl, rfl⟩ := Prod.mk.inj (Option.some.inj (show some (_, _) = some (f, L) from hi))
      exact ⟨(e11 (3 * 2)).trans rfl, _, (e11 (3 * 2 + 1)).trans rfl, fun j n hj => by
        rw [e4 j]
        exact (show (#[.int .i64 2, .int .i64 3, .int .i64 4, .int .i64 7, .int .i64 8, .int .i64 9] : Array Value)[j]? = some (.int .i64 (n : Nat)) from arr_int [2, 3, 4, 7, 8, 9] j n hj)⟩
    | 4, hi =>
      obtain ⟨rfl, rfl⟩ := Prod.mk.inj (Option.some.inj (show some (_, _) = some (f, L) from hi))
      exact ⟨(e11 (4 * 2)).trans rfl, _, (e11 (4 * 2 + 1)).trans rfl, fun j n hj => by
        rw [e5 j]
        exact (show (#[.int .i64 0, .int .i64 2, .int .i64 3, .int .i64 5, .int .i64 6, .int .i64 8] : Array Value)[j]? = some (.int .i64 (n : Nat)) from arr_int [0, 2, 3, 5, 6, 8] j n hj)⟩
    | 5, hi =>
      obtain ⟨rfl, rfl⟩ := Prod.mk.inj (Option.some.inj (show some (_, _) = some (f, L) from hi))
      exact ⟨(e11 (5 * 2)).trans rfl, _, (e11 (5 * 2 + 1)).trans rfl, fun j n hj => by
        rw [e6 j]
        exact (show (#[.int .i64 0, .int .i64 1, .int .i64 2, .int .i64 3, .int .i64 4, .int .i64 5, .int .i64 6, .int .i64 7, .int .i64 8, .int .i64 9] : Array Value)[j]? = some (.int .i64 (n : Nat)) from arr_int [0, 1, 2, 3, 4, 5, 6, 7, 8, 9] j n hj)⟩
    | 6, hi =>
      obtain ⟨rfl, rfl⟩ := Prod.mk.inj (Option.some.inj (show some (_, _) = some (f, L) from hi))
      exact ⟨(e11 (6 * 2)).trans rfl, _, (e11 (6 * 2 + 1)).trans rfl, fun j n hj => by
        rw [e7 j]
        exact (show (#[.int .i64 5, .int .i64 6] : Array Value)[j]? = some (.int .i64 (n : Nat)) from arr_int [5, 6] j n hj)⟩
    | 7, hi =>
      obtain ⟨rfl, rfl⟩ := Prod.mk.inj (Option.some.inj (show some (_, _) = some (f, L) from hi))
      exact ⟨(e11 (7 * 2)).trans rfl, _, (e11 (7 * 2 + 1)).trans rfl, fun j n hj => by
        rw [e8 j]
        exact (show (#[.int .i64 7, .int .i64 9] : Array Value)[j]? = some (.int .i64 (n : Nat)) from arr_int [7, 9] j n hj)⟩
    | 8, hi =>
      obtain ⟨rfl, rfl⟩ := Prod.mk.inj (Option.some.inj (show some (_, _) = some (f, L) from hi))
      exact ⟨(e11 (8 * 2)).trans rfl, _, (e11 (8 * 2 + 1)).trans rfl, fun j n hj => by
        rw [e9 j]
        exact (show (#[.int .i64 0, .int .i64 1, .int .i64 2, .int .i64 3, .int .i64 4, .int .i64 5, .int .i64 6, .int .i64 7, .int .i64 8, .int .i64 9] : Array Value)[j]? = some (.int .i64 (n : Nat)) from arr_int [0, 1, 2, 3, 4, 5, 6, 7, 8, 9] j n hj)⟩
    | 9, hi =>
      obtain ⟨rfl, rfl⟩ := Prod.mk.inj (Option.some.inj (show some (_, _) = some (f, L) from hi))
      exact ⟨(e11 (9 * 2)).trans rfl, _, (e11 (9 * 2 + 1)).trans rfl, fun j n hj => by
        rw [e10 j]
        exact (show (#[.int .i64 3, .int .i64 6] : Array Value)[j]? = some (.int .i64 (n : Nat)) from arr_int [3, 6] j n hj)⟩
    | n + 10, hi => exact absurd hi (by rw [List.getElem?_eq_none (by show 10 ≤ n + 10; omega)]; simp)
/-- What stands in the table of what may not be. -/
def BdFacts (q : Nat) (W : World) : Prop := ∀ (k : Nat) x, BADS[k]? = some x → W.cell? ⟨q, k, none⟩ = some (.string ⟨x.toArray⟩)
theorem bd_facts (w : World) : BdFacts w.heap.size (w.alloc (.cells #[.string ⟨#[97, 35]⟩, .string ⟨#[35, 47, 97]⟩, .string ⟨#[97, 47, 35, 47, 98]⟩, .string ⟨#[43, 97]⟩, .string ⟨#[97, 43, 47, 98]⟩, .string ⟨#[]⟩, .string ⟨#[97, 47, 43, 43]⟩, .string ⟨#[35, 35]⟩] 9)) := by
  intro k x hk
  rw [(chain_step w _ _).2.1 k]
  exact (show (#[.string ⟨#[97, 35]⟩, .string ⟨#[35, 47, 97]⟩, .string ⟨#[97, 47, 35, 47, 98]⟩, .string ⟨#[43, 97]⟩, .string ⟨#[97, 43, 47, 98]⟩, .string ⟨#[]⟩, .string ⟨#[97, 47, 43, 43]⟩, .string ⟨#[35, 35]⟩] : Array Value)[k]? = some (.string ⟨x.toArray⟩) from arr_txt BADS k x hk)
theorem BdFacts.below {q : Nat} {W W' : World} (h : BdFacts q W) (hb : Below W.heap.size W W') : BdFacts q W' := by
  intro k x hk
  have hv := h k x hk
  have hp : q < W.heap.size := by
    rcases Nat.lt_or_ge q W.heap.size with h | h
    · exact h
    · simp [World.cell?, Array.getElem?_eq_none h] at hv
  exact (hb.cell (p := ⟨q, k, none⟩) hp).trans hv
theorem wp_gen {P : Program} {c : Code} {Q' : Exit → Act → World → Prop} {a : Act} {W : World} (Q : World → Prop) (h : Q W) (k : ∀ W, Q W → c.wp P Q' a W) : c.wp P Q' a W := k W h
theorem wp_genL {P : Program} {ops : Array Oper} {Q : Exit → Act → World → Prop} {l : List Oper} {a : Act} {W : World} (R : World → Prop) (h : R W) (k : ∀ W, R W → wpList P ops Q l a W) : wpList P ops Q l a W := k W h
set_option maxHeartbeats 8000000 in
set_option maxRecDepth 100000 in
theorem topicLevels_any (v : Value) (L : List (ByteArray × ByteArray)) (w : World) (hE : Env w) (hv : SlOf w 2 Ask20.At v L) :
    Calls Tryd.prog 6 #[v] w fun e w' => e = .returned (.bool true) ∧ Below w.heap.size w w' := by
  obtain ⟨ao, cap, rfl, hlc, hlm, -, -⟩ := hv
  have hlen : L.length ≤ maxLen := by omega
  have HE := Lib.hid hE
  clear hE hlm hlc
  go_enter Tryd.func6, Tryd.ntmps6
  go_wp2
  refine wp_gen (fun W => LvFacts w W) (lv_facts w) ?_
  intro W1 hl1
  go_loopw [5] (fun i wr => ∃ i' : Nat, i' ≤ 10 ∧ i = .int .i64 i' ∧ LvFacts w wr) (fun i _ => 10 - (RowKit.intOf i).toNat)
  case atStart => exact ⟨0, by omega, rfl, hl1⟩
  case round =>
    obtain ⟨i, hi10, rfl, hl⟩ := hrel
    have HL := Lib.hid hl
    clear hl hl1
    by_cases hlt : i < 10
    · have hltz : (i : Int) < 10 := by omega
      obtain ⟨⟨f, want⟩, hi⟩ : ∃ q, ROWS[i]? = some q := ⟨_, List.getElem?_eq_getElem (show i < ROWS.length from hlt)⟩
      go_wp2
      go_loopw [6] (fun i wr => ∃ k : Nat, k ≤ 10 ∧ i = .int .i64 k ∧ LvFacts w wr) (fun i _ => 10 - (RowKit.intOf i).toNat)
      case atStart => exact ⟨0, by omega, rfl, HL.out⟩
      case round =>
        obtain ⟨k, hk10, rfl, hl2⟩ := hrel
        have HL2 := Lib.hid hl2
        clear hl2
        by_cases hkt : k < 10
        · have hktz : (k : Int) < 10 := by omega
          obtain ⟨n, hk⟩ : ∃ q, NMS[k]? = some q := ⟨_, List.getElem?_eq_getElem (show k < NMS.length from hkt)⟩
          obtain ⟨hm, hfi, hna, hl10, hn10, hw10⟩ := row_fact hi hk
          obtain ⟨f0, g1, f1, -⟩ := HL2.out.2.1 i f want hi
          have f2 := HL2.out.1 k n hk
          cases hc : want.contains k with
          | true =>
            rw [hc] at hm
            have CM := Lib.hid (fun W (hb : Below w.heap.size w W) => (show Calls Tryd.prog 15 #[.string ⟨f.toArray⟩, .string ⟨n.toArray⟩] W fun e w' => e = .returned (.tuple #[.bool true, .int .i64 0]) ∧ Below W.heap.size W w' from by
              have := match_any f n W (by omega) (by omega) (HE.out.below hb).1 (HE.out.below hb).2
              rw [hm, hfi, hna] at this
              exact this))
            clear hm hfi hna
            go_wp2_with fail
            clear f1 g1
            have HL3 := Lib.hid (show ∀ W, (W.cell? ⟨w.heap.size + 1 + 1 + 1 + 1 + 1 + 1 + 1 + 1 + 1 + 1 + 1, i * 2, none⟩ = some (.string ⟨f.toArray⟩) ∧ W.cell? ⟨w.heap.size, k, none⟩ = some (.string ⟨n.toArray⟩) ∧ Below wr.heap.size wr W) → Below w.heap.size w W from fun W h => HL2.out.grew.trans (h.2.2.mono HL2.out.grew.size))
            have KP := Lib.hid (show ∀ W W', (W.cell? ⟨w.heap.size + 1 + 1 + 1 + 1 + 1 + 1 + 1 + 1 + 1 + 1 + 1, i * 2, none⟩ = some (.string ⟨f.toArray⟩) ∧ W.cell? ⟨w.heap.size, k, none⟩ = some (.string ⟨n.toArray⟩) ∧ Below wr.heap.size wr W) → Below W.heap.size W W' → (W'.cell? ⟨w.heap.size + 1 + 1 + 1 + 1 + 1 + 1 + 1 + 1 + 1 + 1 + 1, i * 2, none⟩ = some (.string ⟨f.toArray⟩) ∧ W'.cell? ⟨w.heap.size, k, none⟩ = some (.string ⟨n.toArray⟩) ∧ Below wr.heap.size wr W') from by
              intro W W' h hb
              have h3 : LvFacts w W' := HL2.out.below (h.2.2.trans (hb.mono h.2.2.size))
              exact ⟨h3.rows i f want hi, h3.nms k n hk, h.2.2.trans (hb.mono h.2.2.size)⟩)
            go_region_held3 (fun W => W.cell? ⟨w.heap.size + 1 + 1 + 1 + 1 + 1 + 1 + 1 + 1 + 1 + 1 + 1, i * 2, none⟩ = some (.string ⟨f.toArray⟩) ∧ W.cell? ⟨w.heap.size, k, none⟩ = some (.string ⟨n.toArray⟩) ∧ Below wr.heap.size wr W) (first | with_reducible assumption | exact ⟨f0, f2, Below.refl _ _⟩ | exact ⟨f0, f2, (Below.refl _ _).drew⟩ | exact KP.out wr.drew _ ⟨f0, f2, (Below.refl _ _).drew⟩ hb4) (first | ((with_reducible refine (CM.out _ (by first | exact HL2.out.grew.drew | exact HL2.out.grew)).mono ?_); rintro e1 w4 ⟨rfl, hb4⟩))
            have HL4 := Lib.hid (show LvFacts w w4 from HL2.out.below ((Below.refl wr.heap.size wr).drew.trans hb4))
            clear hb4 f0 f2 CM KP HL3
            obtain ⟨-, g3, f1, fc⟩ := (show _ ∧ _ ∧ _ from HL4.out).2.1 i f want hi
            have CI := Lib.hid (in20_any g3 want.length want k w4 (by omega) (Nat.le_refl _) fc)
            rw [hc] at CI
            clear fc
            go_wp2_with (first | ((with_reducible refine (num20_any 0 _ (by omega) (by omega)).mono ?_); rintro e' w' ⟨rfl, rfl⟩))
            (with_reducible refine CI.out.mono ?_)
            rintro e1 w5 ⟨r, rfl, rfl, hr⟩
            have hrz : 0 ≤ r := of_decide_eq_true hr
            go_wp2
            go_roundw
            case rel => exact ⟨k + 1, by omega, by go_num, HL4.out⟩
            case measure => simp [RowKit.intOf]; omega
          | false =>
            rw [hc] at hm
            have CM := Lib.hid (fun W (hb : Below w.heap.size w W) => (show Calls Tryd.prog 15 #[.string ⟨f.toArray⟩, .string ⟨n.toArray⟩] W fun e w' => e = .returned (.tuple #[.bool false, .int .i64 0]) ∧ Below W.heap.size W w' from by
              have := match_any f n W (by omega) (by omega) (HE.out.below hb).1 (HE.out.below hb).2
              rw [hm, hfi, hna] at this
              exact this))
            clear hm hfi hna
            go_wp2_with fail
            clear f1 g1
            have HL3 := Lib.hid (show ∀ W, (W.cell? ⟨w.heap.size + 1 + 1 + 1 + 1 + 1 + 1 + 1 + 1 + 1 + 1 + 1, i * 2, none⟩ = some (.string ⟨f.toArray⟩) ∧ W.cell? ⟨w.heap.size, k, none⟩ = some (.string ⟨n.toArray⟩) ∧ Below wr.heap.size wr W) → Below w.heap.size w W from fun W h => HL2.out.grew.trans (h.2.2.mono HL2.out.grew.size))
            have KP := Lib.hid (show ∀ W W', (W.cell? ⟨w.heap.size + 1 + 1 + 1 + 1 + 1 + 1 + 1 + 1 + 1 + 1 + 1, i * 2, none⟩ = some (.string ⟨f.toArray⟩) ∧ W.cell? ⟨w.heap.size, k, none⟩ = some (.string ⟨n.toArray⟩) ∧ Below wr.heap.size wr W) → Below W.heap.size W W' → (W'.cell? ⟨w.heap.size + 1 + 1 + 1 + 1 + 1 + 1 + 1 + 1 + 1 + 1 + 1, i * 2, none⟩ = some (.string ⟨f.toArray⟩) ∧ W'.cell? ⟨w.heap.size, k, none⟩ = some (.string ⟨n.toArray⟩) ∧ Below wr.heap.size wr W') from by
              intro W W' h hb
              have h3 : LvFacts w W' := HL2.out.below (h.2.2.trans (hb.mono h.2.2.size))
              exact ⟨h3.rows i f want hi, h3.nms k n hk, h.2.2.trans (hb.mono h.2.2.size)⟩)
            go_region_held3 (fun W => W.cell? ⟨w.heap.size + 1 + 1 + 1 + 1 + 1 + 1 + 1 + 1 + 1 + 1 + 1, i * 2, none⟩ = some (.string ⟨f.toArray⟩) ∧ W.cell? ⟨w.heap.size, k, none⟩ = some (.string ⟨n.toArray⟩) ∧ Below wr.heap.size wr W) (first | with_reducible assumption | exact ⟨f0, f2, Below.refl _ _⟩ | exact ⟨f0, f2, (Below.refl _ _).drew⟩ | exact KP.out wr.drew _ ⟨f0, f2, (Below.refl _ _).drew⟩ hb4) (first | ((with_reducible refine (CM.out _ (by first | exact HL2.out.grew.drew | exact HL2.out.grew)).mono ?_); rintro e1 w4 ⟨rfl, hb4⟩))
            have HL4 := Lib.hid (show LvFacts w w4 from HL2.out.below ((Below.refl wr.heap.size wr).drew.trans hb4))
            clear hb4 f0 f2 CM KP HL3
            obtain ⟨-, g3, f1, fc⟩ := (show _ ∧ _ ∧ _ from HL4.out).2.1 i f want hi
            have CI := Lib.hid (in20_any g3 want.length want k w4 (by omega) (Nat.le_refl _) fc)
            rw [hc] at CI
            clear fc
            go_wp2_with (first | ((with_reducible refine (num20_any 0 _ (by omega) (by omega)).mono ?_); rintro e' w' ⟨rfl, rfl⟩))
            (with_reducible refine CI.out.mono ?_)
            rintro e1 w5 ⟨r, rfl, rfl, hr⟩
            have hrz : ¬ 0 ≤ r := of_decide_eq_false hr
            go_wp2
            go_roundw
            case rel => exact ⟨k + 1, by omega, by go_num, HL4.out⟩
            case measure => simp [RowKit.intOf]; omega
        · obtain rfl : k = 10 := by omega
          go_wp2
          go_roundw
          case rel => exact ⟨i + 1, by omega, by go_num, HL2.out⟩
          case measure => simp [RowKit.intOf]; omega
    · have hiz : ¬ (i : Int) < 10 := by omega
      clear hlt
      go_wp2
      refine wp_gen (fun W => Below w.heap.size w W ∧ BdFacts wr.heap.size W) ⟨HL.out.grew.alloc HL.out.grew.size _, bd_facts wr⟩ ?_
      rintro W6 ⟨hb6, hf6⟩
      go_loopw [10] (fun i wx => ∃ j : Nat, j ≤ 8 ∧ i = .int .i64 j ∧ Below w.heap.size w wx ∧ BdFacts wr.heap.size wx) (fun i _ => 8 - (RowKit.intOf i).toNat)
      case atStart => exact ⟨0, by omega, rfl, hb6, hf6⟩
      case round =>
        obtain ⟨j, hj8, rfl, hbx, hfx⟩ := hrel
        have HB := Lib.hid hbx
        have HF := Lib.hid hfx
        clear hbx hfx hb6 hf6
        by_cases hjt : j < 8
        · have hjtz : (j : Int) < 8 := by omega
          obtain ⟨f, hj⟩ : ∃ q, BADS[j]? = some q := ⟨_, List.getElem?_eq_getElem (show j < BADS.length from hjt)⟩
          have f0 := HF.out j f hj
          obtain ⟨hbad, hl10⟩ := bad_fact hj
          have CF := Lib.hid (fun W (hb : Below w.heap.size w W) => (show Calls Tryd.prog 10 #[.string ⟨f.toArray⟩] W fun e w' => e = .returned (.int .i64 1) ∧ Below W.heap.size W w' from by
            have := filter_any f W (by omega) (HE.out.below hb).1 (HE.out.below hb).2
            rw [hbad] at this
            exact this))
          clear hbad
          go_wp2_with fail
          (with_reducible refine (CF.out _ HB.out).mono ?_)
          rintro e1 w8 ⟨rfl, hb8⟩
          have HB8 := Lib.hid (HB.out.trans (hb8.mono HB.out.size))
          have HF8 := Lib.hid (HF.out.below hb8)
          clear hb8 f0 CF
          go_wp2_with (first | ((with_reducible refine (num20_any 1 _ (by omega) (by omega)).mono ?_); rintro e' w' ⟨rfl, rfl⟩))
          go_roundw
          case rel => exact ⟨j + 1, by omega, by go_num, HB8.out, HF8.out⟩
          case measure => simp [RowKit.intOf]; omega
        · obtain rfl : j = 8 := by omega
          have hlz : (0 : Int) ≤ (L.length : Int) := by omega
          have CN := Lib.hid (fun W (hb : Below w.heap.size w W) => (show Calls Tryd.prog 11 #[.string ⟨#[97]⟩] W fun e w' => e = .returned (.bool true) ∧ Below W.heap.size W w' from by
            have := rname_any ⟨#[97]⟩ W (by decide) (HE.out.below hb).1
            rw [show nameB (⟨#[97]⟩ : ByteArray).data.toList = true from by decide +kernel] at this
            exact this))
          go_wp2_with fail
          (with_reducible refine (CN.out _ HB.out).mono ?_)
          rintro e1 w8 ⟨rfl, hb8⟩
          have HB8 := Lib.hid (HB.out.trans (hb8.mono HB.out.size))
          clear hb8 CN
          go_wp2_with fail
          (with_reducible refine (wakes20_any _ (HE.out.below HB8.out)).mono ?_)
          rintro e w9 ⟨rfl, hb9⟩
          go_wp2
          go_ret
          exact ⟨rfl, HB8.out.trans (hb9.mono HB8.out.size)⟩
theorem topicLevels_walk (W : World) (hL : laidMetH Tryd.prog laid1 W) (hsh : W.ShapedOpen Tryd.prog) (v : Value) (h : Rd Tryd.prog W 22 [v]) :
    Calls Tryd.prog 6 #[v] W fun e W' => e = .returned (.bool true) ∧ Below W.heap.size W W' := by
      obtain ⟨L, hV⟩ := asks20_of W v h
      exact topicLevels_any v L W ⟨tabs_of_laid hL, mx_of_shape hsh⟩ hV
namespace topicLevels
open Go.ChangeShapes Go.WideShapes Go.ChangeAt
theorem own : ownKnob Tryd.prog.godebug = none := by kernel_rfl
theorem laidOut : laidOutB Tryd.prog = true := by kernel_rfl
set_option maxRecDepth 100000 in
theorem lifted (os : Os) (started : os.Started) (H : Type) (enc : TypeId × Value → H) :
    ReturnsInHanded {} Tryd.checked os 6 .any (fun w args => (Rows.topicLevelsSpec.pre enc Tryd.prog Tryd.f6 [] false w args ∧ laidMetH Tryd.prog laid1 w) ∧ sizedMet enc Tryd.prog Tryd.f6 (OpenSpec.ofChange Rows.topicLevelsSpec) false w args)
      (Rows.topicLevelsSpec.post enc Tryd.prog Tryd.f6 false true false false) := by
  refine handed_and_shaped (C := Tryd.checked) (X := fun w _ => laidMetH Tryd.prog laid1 w) (fun _ _ _ hh h => h.of_heap hh) own started (by kernel_rfl) Tryd.func6
    (ChangeSpec.witness_shaped (enc := enc) (C := Tryd.checked) (os := os) (X := fun w _ => laidMetH Tryd.prog laid1 w) false (World.laidAll Tryd.prog os laid1) #[.slice none 0 0] 12 (World.laidAll_os _ _ _) (World.shaped_of_ZipB (by kernel_rfl) (by kernel_rfl)) (by kernel_rfl) (by kernel_rfl) (by kernel_rfl) (by rw [MakeChecks.laidMetH_plain _ _ _ (by kernel_rfl)]; exact laidMet_laidAll _ (by kernel_rfl) (by kernel_rfl))) ?_
  intro W base args ds gs before hval0 hW hL hsh
  have hval : ∀ (j : Nat) t v, Tryd.f6.params[j]? = some t → args[j]? = some v → Value.okWide Tryd.prog W .any base t v := hval0
  have hW' := hW
  obtain ⟨p, q, hA0, hV, rfl, hfz, hnd⟩ := hW
  have hA : DataW.TrodAll enc Tryd.prog W 0 (fun _ => true) true Tryd.f6.params.toList args.toList ds p := hA0
  rw [Tryd.params6] at hA hval
  obtain ⟨v0, vs0, d0, ds0, p0, q0, hargs, rfl, rfl, h0, r0⟩ := trodAll_cons hA
  obtain ⟨rfl, rfl, rfl⟩ := trodAll_nil r0
  obtain rfl : args = #[v0] := by cases args; simp_all
  obtain ⟨rfl, rfl⟩ := trodVars_none hV
  obtain ⟨a0, len0, cap0, rfl⟩ := okWide_slice Tryd.underlying22 (hval 0 22 v0 rfl rfl)
  have k0 := h0
  have lt0 : ∀ x ∈ p0, x.block < W.heap.size := by obtain ⟨m, hm⟩ := k0; exact DataW.trod_lt m _ _ _ hm
  have hrd : Rd Tryd.prog W 22 [.slice a0 len0 cap0] := by obtain ⟨fuel, hf⟩ := h0; exact ⟨H, enc, 0, _, true, fuel, _, hf⟩
  clear hA0 hval0
  refine (show Calls Tryd.prog 6 _ W (fun e W' => e = .returned (.bool true) ∧ Below W.heap.size W W') from topicLevels_walk W hL hsh _ hrd).mono fun e W' ⟨he, bel⟩ => ?_
  subst he
  exact ⟨_, rfl, _, _, _, [], _, [], hW', trodAll_mk1 (shut_bool Tryd.underlying4 _), (trodAll_cons_mk (Below.trod laidOut (by kernel_rfl) (of_decide_eq_true (by kernel_rfl)) k0 bel lt0) trodAll_mk0), rfl, bel.frame _, fun h => by cases h⟩
theorem over : Rows.topicLevelsRow.holds Tryd.pinned (OpenSpec.ofChange Rows.topicLevelsSpec) :=
  OpenClaim.holds_of_wide 6 Tryd.f6 rfl rfl rfl rfl rfl rfl rfl ⟨rfl, rfl, rfl, rfl, rfl⟩ rfl rfl rfl rfl rfl (by kernel_rfl) Tryd.func6 (by kernel_rfl)
    (of_decide_eq_true (by kernel_rfl)) (by unfold Func.isWrapper; first | (rw [if_pos (by decide +kernel)]; kernel_rfl) | (rw [if_neg (by decide +kernel)]; exact ⟨rfl, rfl⟩))
    (fun os started H enc _ => lifted os started H enc)
/-- THE STATEMENT: the card, its listed variables tied to the program's text. -/
theorem proved : Rows.TopicLevelsCardSaid :=
  Claim7.holds_tied_plain_at .later [] [.data, .pinned] true _ false
    over (fun _ h => by cases h) (by kernel_rfl) (fun _ h => by cases h) topicLevels_row_tie rfl ⟨rfl, rfl⟩ (by kernel_rfl) rfl
    (fun f fn hf hfn => by
      obtain rfl : f = 6 := Option.some.inj ((show Tryd.prog.funcNamed "kiosk/kiosklaw20.TopicLevels" = some 6 by kernel_rfl).symm.trans hf) |>.symm
      obtain rfl : fn = Tryd.f6 := (Option.some.inj (Tryd.func6.symm.trans hfn)).symm
      exact ⟨by kernel_rfl, fun j t ht => by
        rw [Tryd.params6] at ht
        have hm : t ∈ [22] := by simpa using Array.mem_of_getElem? ht
        have hall : ([22].all fun u => !Tryd.prog.wantsStandIn u) = true := by kernel_rfl
        exact (show Tryd.prog.wantsStandIn t = false by simpa using List.all_eq_true.1 hall t hm)⟩)
    (by kernel_rfl)
end topicLevels
-- CLAIM: TopicLevelsCardSaid topicLevels.proved
end Go.Proofs.YtpbpbjnkdgdnpaaDoor
