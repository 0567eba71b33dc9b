/-
  Sums as the internet has them: the plain mathematics, and what each function of package sum, of its reference and of the statements' helpers does.
-/
import Derived.Test.YtpiiialmnaeidaaBytes
namespace Go.Proofs.Ytpiiialmnaeidaa
open Go.RowKit
def foldv (s : Int) : Int := if s ≤ 0 then 0 else (s - 1) % 65535 + 1
theorem foldv_id (s : Int) (h0 : 0 ≤ s) (h1 : s ≤ 65535) : foldv s = s := by unfold foldv; split <;> omega
theorem foldv_bd (s : Int) : 0 ≤ foldv s ∧ foldv s ≤ 65535 := by unfold foldv; split <;> omega
theorem foldv_step (s : Int) (h0 : 0 ≤ s) : foldv (s % 65536 + s / 65536) = foldv s := by unfold foldv; split <;> split <;> omega
theorem foldv_add (s t : Int) (h0 : 0 ≤ s) (ht : 0 ≤ t) : foldv (foldv s + t) = foldv (s + t) := by
  unfold foldv; split <;> split <;> split <;> omega
/-- The sum of pairs, not folded. -/
def pairs : List UInt8 → Int
  | a :: b :: l => (a.toNat : Int) * 256 + b.toNat + pairs l
  | [a] => (a.toNat : Int) * 256
  | [] => 0
theorem pairs_nonneg : ∀ l : List UInt8, 0 ≤ pairs l
  | a :: b :: l => by have := pairs_nonneg l; simp only [pairs]; omega
  | [a] => by simp only [pairs]; omega
  | [] => by simp [pairs]
theorem pairs_le : ∀ l : List UInt8, pairs l ≤ 65536 * l.length
  | a :: b :: l => by have := pairs_le l; have := a.toNat_lt; have := b.toNat_lt; simp only [pairs, List.length_cons]; omega
  | [a] => by have := a.toNat_lt; simp only [pairs, List.length_cons, List.length_nil]; omega
  | [] => by simp [pairs]
theorem pairs_two (l : List UInt8) (k : Nat) (x y : UInt8) (hx : l[k]? = some x) (hy : l[k+1]? = some y) : pairs (l.drop k) = (x.toNat : Int) * 256 + y.toNat + pairs (l.drop (k+2)) := by
  have h1 : l.drop k = x :: y :: l.drop (k+2) := by
    rw [List.drop_eq_getElem?_toList_append, hx, List.drop_eq_getElem?_toList_append, hy]; rfl
  rw [h1]; rfl
theorem pairs_one (l : List UInt8) (k : Nat) (x : UInt8) (hx : l[k]? = some x) (hy : l.length = k + 1) : pairs (l.drop k) = (x.toNat : Int) * 256 := by
  have h1 : l.drop k = [x] := by
    rw [List.drop_eq_getElem?_toList_append, hx, List.drop_eq_nil_of_le (by omega)]; rfl
  rw [h1]; rfl
theorem pairs_nil (l : List UInt8) (k : Nat) (hy : l.length ≤ k) : pairs (l.drop k) = 0 := by rw [List.drop_eq_nil_of_le hy]; rfl
/-- The sum of bytes behind s. -/
def sumv (s : Int) (l : List UInt8) : Int := foldv (s + pairs l)
set_option maxHeartbeats 400000 in
theorem fold_any (s : Int) (w : World) (h0 : 0 ≤ s) (h1 : s ≤ 140737488355328) :
    Calls Try.prog 61 #[.int .i64 s] w fun e w' => e = .returned (.int .i64 (foldv s)) ∧ w = w' := by
  have andm := and_65535
  go_enter Try.func61, Try.ntmps61
  go_wp2
  go_loop [0] (fun x => ∃ n : Int, 0 ≤ n ∧ n ≤ 140737488355328 ∧ foldv n = foldv s ∧ x = .int .i64 n) (fun x => (intOf x).toNat)
  case atStart => exact ⟨s, h0, h1, rfl, rfl⟩
  case round =>
    obtain ⟨n, hn0, hn1, hf, rfl⟩ := hrel
    have HF := Lib.hid hf; clear hf
    by_cases hb : n ≤ 65535
    · go_wp2
      go_ret
      exact ⟨by rw [← HF.out, foldv_id n hn0 hb]; rfl, rfl⟩
    · go_wp2
      go_round
      case rel => exact ⟨n % 65536 + n / 65536, by omega, by omega, by rw [foldv_step n hn0, HF.out], by go_num⟩
      case measure => simp [intOf]; omega
set_option maxRecDepth 100000 in
set_option maxHeartbeats 1000000 in
theorem radd_any (s : Int) (v : Value) (l : List UInt8) (w : World) (h0 : 0 ≤ s) (h1 : s ≤ 65535) (hl : l.length ≤ 1000000) (hv : Sl w v l) :
    Calls Try.prog 45 #[.int .i64 s, v] w fun e w' => e = .returned (.int .i64 (sumv s l)) ∧ w = w' := by
  obtain ⟨ao, cap, rfl, hcl, hcm, -, hB⟩ := hv
  have HB := Lib.hid hB; clear hB
  have andm := and_65535
  go_enter Try.func45, Try.ntmps45
  go_wp2
  go_loop [0, 5] (fun x i => ∃ (n : Int) (k : Nat), 0 ≤ n ∧ n ≤ 65535 ∧ k ≤ l.length + 1 ∧ i = .int .i64 k ∧ x = .int .i64 n ∧ foldv (n + pairs (l.drop k)) = foldv (s + pairs l)) (fun _ i => l.length + 1 - (intOf i).toNat)
  case atStart => exact ⟨s, 0, h0, h1, by omega, rfl, rfl, rfl⟩
  case round =>
    obtain ⟨n, k, hn0, hn1, hk, rfl, rfl, hf⟩ := hrel
    have HF := Lib.hid hf; clear hf
    by_cases hlt : k < l.length
    · obtain ⟨b, off, rfl, hbw, hBB⟩ := HB.out (by intro h; simp [h] at hlt)
      obtain ⟨x, hx, hcx, hx1⟩ := hBB.get k hlt
      by_cases hlt1 : k + 1 < l.length
      · obtain ⟨y, hy, hcy, hy1⟩ := hBB.get (k+1) hlt1
        have hxy : foldv (s + pairs l) = foldv (foldv (n + (x.toNat : Int) * 256 + y.toNat) + pairs (l.drop (k+2))) := by
          rw [← HF.out, pairs_two l k x y hx hy, foldv_add _ _ (by omega) (pairs_nonneg _)]; congr 1; omega
        have HXY := Lib.hid hxy; clear hxy hx hy hBB
        go_wp2
        go_loop [0] (fun x' => ∃ m : Int, 0 ≤ m ∧ m ≤ 200000 ∧ foldv m = foldv (n + (x.toNat : Int) * 256 + y.toNat) ∧ x' = .int .i64 m) (fun x => (intOf x).toNat)
        case atStart => exact ⟨_, by omega, by omega, rfl, rfl⟩
        case round =>
          obtain ⟨m, hm0, hm1, hmf, rfl⟩ := hrel
          have HM := Lib.hid hmf; clear hmf
          by_cases hb : m ≤ 65535
          · go_wp2
            go_round
            case rel => exact ⟨m, k+2, by omega, by omega, by omega, by go_num, rfl, by rw [HXY.out, ← HM.out, foldv_id _ hm0 hb]⟩
            case measure => simp [intOf]; omega
          · go_wp2
            go_round
            case rel => exact ⟨m % 65536 + m / 65536, by omega, by omega, by rw [foldv_step m hm0, HM.out], by go_num⟩
            case measure => simp [intOf]; omega
      · have hxy : foldv (s + pairs l) = foldv (foldv (n + (x.toNat : Int) * 256) + pairs (l.drop (k+2))) := by
          rw [← HF.out, pairs_one l k x hx (by omega), pairs_nil l (k+2) (by omega), foldv_add _ _ (by omega) (Int.le_refl 0)]; congr 1; omega
        have HXY := Lib.hid hxy; clear hxy hx hBB
        go_wp2
        go_loop [0] (fun x' => ∃ m : Int, 0 ≤ m ∧ m ≤ 200000 ∧ foldv m = foldv (n + (x.toNat : Int) * 256) ∧ x' = .int .i64 m) (fun x => (intOf x).toNat)
        case atStart => exact ⟨_, by omega, by omega, rfl, rfl⟩
        case round =>
          obtain ⟨m, hm0, hm1, hmf, rfl⟩ := hrel
          have HM := Lib.hid hmf; clear hmf
          by_cases hb : m ≤ 65535
          · go_wp2
            go_round
            case rel => exact ⟨m, k+2, by omega, by omega, by omega, by go_num, rfl, by rw [HXY.out, ← HM.out, foldv_id _ hm0 hb]⟩
            case measure => simp [intOf]; omega
          · go_wp2
            go_round
            case rel => exact ⟨m % 65536 + m / 65536, by omega, by omega, by rw [foldv_step m hm0, HM.out], by go_num⟩
            case measure => simp [intOf]; omega
    · have hfin : foldv (s + pairs l) = n := by rw [← HF.out, pairs_nil l k (by omega), foldv_id _ (by omega) (by omega)]; omega
      have HX := Lib.hid hfin; clear hfin HB
      go_wp2
      go_ret
      exact ⟨by rw [sumv, HX.out]; rfl, rfl⟩
set_option maxRecDepth 100000 in
set_option maxHeartbeats 1000000 in
theorem add_any (s : Int) (v : Value) (l : List UInt8) (w : World) (h0 : 0 ≤ s) (h1 : s ≤ 65535) (hl : l.length ≤ 1000000) (hv : Sl w v l) :
    Calls Try.prog 54 #[.int .i64 s, v] w fun e w' => e = .returned (.int .i64 (sumv s l)) ∧ ∃ m, w' = w.drewN m := by
  obtain ⟨ao, cap, rfl, hcl, hcm, -, hB⟩ := hv
  have HB := Lib.hid hB; clear hB
  go_enter Try.func54, Try.ntmps54
  go_wp2_with fail
  refine wp_scope_spine (fun lb a' w' => ∃ (n : Int) (k : Nat) (m : Nat), w' = w.drewN m ∧ 0 ≤ n ∧ n ≤ 65536 * (k + 1) ∧ k ≤ l.length ∧ foldv (n + pairs (l.drop k)) = foldv (s + pairs l) ∧ (lb = 1 ∨ lb = 0 ∧ l.length ≤ k + 1) ∧ ∃ u6 u7 u8 u9 u10 u11 u12 u13 u14 u15 u16 u17 u18 u19 u20 u21 u22 u23 u24 u25 u26 u27 u28 u29 u30 u31 u32 u33 u34 u35 u36 u37 u38 u39 u40 u41 u42 : Value, a' = { tmps := #[.int .i64 n, .slice ao l.length cap, undef, undef, .int .i64 0, .int .i64 k, u6, u7, u8, u9, u10, u11, u12, u13, u14, u15, u16, u17, u18, u19, u20, u21, u22, u23, u24, u25, u26, u27, u28, u29, u30, u31, u32, u33, u34, u35, u36, u37, u38, u39, u40, u41, u42, undef], defers := [] }) (fun lb a' _ => if lb = 1 then l.length + 2 - (intOf (a'.tmps.getD 5 undef)).toNat else 0) ?_ ?_ ?_ ?_ ?_
  · simp [Code.spine, findLabel]
  · rintro lb a' w' ⟨n, k, m, -, -, -, -, -, h, -⟩; rcases h with rfl | ⟨rfl, -⟩ <;> simp [Code.spine]
  · simp [Code.spine]
  · intro J' HJ
    refine wpSpine_seq rfl fun K hK => ?_
    go_wp2_with (go_at_call 61; refine (fold_any _ _ (by omega) (by omega)).mono ?_; rintro e w' ⟨rfl, rfl⟩)
    refine wpSpine_seq rfl fun K hK => ?_
    go_wp2
    refine wpSpine_label ?_
    have := foldv_bd s
    refine HJ _ _ _ ⟨foldv s, 0, 0, rfl, this.1, by omega, by omega, foldv_add _ _ h0 (pairs_nonneg _), .inl rfl, _, _, _, _, _, _, _, _, _, _, _, _, _, _, _, _, _, _, _, _, _, _, _, _, _, _, _, _, _, _, _, _, _, _, _, _, _, rfl⟩
  · rintro p hp a' w' ⟨n, k, m, rfl, hn0, hn1, hk, hf, hlb, u6, u7, u8, u9, u10, u11, u12, u13, u14, u15, u16, u17, u18, u19, u20, u21, u22, u23, u24, u25, u26, u27, u28, u29, u30, u31, u32, u33, u34, u35, u36, u37, u38, u39, u40, u41, u42, rfl⟩
    intro J' HJ
    simp only [Code.spine, List.mem_cons, List.mem_nil_iff, or_false] at hp
    rcases hp with rfl | rfl
    · have HF := Lib.hid hf; clear hf hlb
      by_cases hlt : k + 1 < l.length
      · obtain ⟨b, off, rfl, hbw, hBB⟩ := HB.out (by intro h; simp [h] at hlt)
        obtain ⟨x, hx, hcx, hx1⟩ := hBB.get k (by omega)
        obtain ⟨y, hy, hcy, hy1⟩ := hBB.get (k+1) hlt
        have orb := or_byte (x.toNat : Int) (y.toNat : Int) (by omega) (by omega) (by omega) hy1
        have hxy : foldv (n + ((x.toNat : Int) * 256 + y.toNat) + pairs (l.drop (k+2))) = foldv (s + pairs l) := by
          rw [← HF.out, pairs_two l k x y hx hy]; congr 1; omega
        have HXY := Lib.hid hxy; clear hxy hx hy hBB
        refine wpSpine_seq rfl fun K hK => ?_
        go_wp2
        refine wpSpine_seq rfl fun K hK => ?_
        go_quiet (fail)
        go_wp2
        refine wpSpine_seq rfl fun K hK => ?_
        go_wp2
        refine wpSpine_seq rfl fun K hK => ?_
        refine wp_goto (HJ _ _ _ ⟨?_, ?_⟩)
        · exact ⟨n + ((x.toNat : Int) * 256 + y.toNat), k + 2, m + nq, rfl, by omega, by omega, by omega, HXY.out, .inl rfl, _, _, _, _, _, _, _, _, _, _, _, _, _, _, _, _, _, _, _, _, _, _, _, _, _, _, _, _, _, _, _, _, _, _, _, _, _, by simp only [Int.natCast_add]; rfl⟩
        simp [intOf]; omega
      · clear HB
        refine wpSpine_seq rfl fun K hK => ?_
        go_wp2
        refine wp_goto (HJ _ _ _ ⟨?_, ?_⟩)
        · exact ⟨n, k, m, rfl, hn0, hn1, hk, HF.out, .inr ⟨rfl, by omega⟩, _, _, _, _, _, _, _, _, _, _, _, _, _, _, _, _, _, _, _, _, _, _, _, _, _, _, _, _, _, _, _, _, _, _, _, _, _, rfl⟩
        simp [intOf]; omega
    · have hk1 : l.length ≤ k + 1 := by rcases hlb with h | h; simp at h; exact h.2
      have HF := Lib.hid hf; clear hf hlb
      by_cases hlt : k < l.length
      · obtain ⟨b, off, rfl, hbw, hBB⟩ := HB.out (by intro h; simp [h] at hlt)
        obtain ⟨x, hx, hcx, hx1⟩ := hBB.get k (by omega)
        have hxy : foldv (n + (x.toNat : Int) * 256) = sumv s l := by
          rw [sumv, ← HF.out, pairs_one l k x hx (by omega)]
        have HXY := Lib.hid hxy; clear hxy hx hBB
        refine wpSpine_seq rfl fun K hK => ?_
        go_wp2
        refine wpSpine_seq rfl fun K hK => ?_
        go_wp2_with (go_at_call 61; refine (fold_any _ _ (by omega) (by omega)).mono ?_; rintro e w' ⟨rfl, rfl⟩)
        refine wpSpine_last rfl ?_ (by intro x y h; cases h)
        go_wp2
        simp only [Exit.jumpsTo]
        go_ret
        exact ⟨by rw [← HXY.out]; rfl, _, rfl⟩
      · have hxy : foldv n = sumv s l := by rw [sumv, ← HF.out, pairs_nil l k (by omega)]; simp
        have HXY := Lib.hid hxy; clear hxy HB
        refine wpSpine_seq rfl fun K hK => ?_
        go_wp2
        refine wpSpine_seq rfl fun K hK => ?_
        go_wp2_with (go_at_call 61; refine (fold_any _ _ (by omega) (by omega)).mono ?_; rintro e w' ⟨rfl, rfl⟩)
        refine wpSpine_last rfl ?_ (by intro x y h; cases h)
        go_wp2
        simp only [Exit.jumpsTo]
        go_ret
        exact ⟨by rw [← HXY.out]; rfl, _, rfl⟩
end Go.Proofs.Ytpiiialmnaeidaa
