/-
  A disk in memory: bytes copied into what is owned, a request taken out.
-/
import Derived.Test.YtcglmkcefenjcaaDkA
namespace Go.Proofs.Ytcglmkcefenjcaa
open Go.RowKit Go.Lib
theorem take_splice2 {α : Type} (L : List α) (off n : Nat) (cs : List α) (h1 : off + cs.length ≤ n) (h2 : n ≤ L.length) : (splice L off cs).take n = splice (L.take n) off cs := by
  unfold splice
  rw [List.take_append, List.take_append, List.take_take, List.take_take, List.drop_take, List.length_take]
  rw [show min n off = off from by omega, show min off n = off from by omega, show min off L.length = off from by omega, List.take_of_length_le (show cs.length ≤ n - off from by omega), show n - off - cs.length = n - (off + cs.length) from by omega]
theorem splice_nil2 {α : Type} (L : List α) (off : Nat) : splice L off [] = L := by simp [splice]
theorem map_splice2 (l x : List UInt8) (off : Nat) : (splice l off x).map B8 = splice (l.map B8) off (x.map B8) := by simp [splice, List.map_take, List.map_drop]
/-- Bytes are copied into a row of our own. -/
theorem opTo_copy {P : Program} {w : World} {o : Oper} {a : Act} (d s : Operand) (dT sT : TypeId)
    (ho : o.op = .call { callee := .builtin .copy, args := #[d, s], argTypes := #[dT, sT] }) (elem : TypeId) (hu : P.underlying dT = some (.slice elem)) (hsz : (P.info? elem).map (·.size) = some 1)
    (base g off n cap : Nat) (l x : List UInt8) (hown : w.ownsRow base elem 1 (.slice (some ⟨g, 0, none⟩) n cap) n (l.map B8)) (dp : Option Addr) (dLen dCap : Nat) (hd : a.eval d = .slice dp dLen dCap) (hdl : x.length ≤ dLen)
    (hdp : 0 < x.length → dp = some ⟨g, off, none⟩) (vs : Value) (hs : a.eval s = vs) (hS : Sl w vs x) (hoff : off + x.length ≤ n) :
    opTo P o a w fun v w' => v = .int .i64 (x.length : Int) ∧ w'.ownsRow base elem 1 (.slice (some ⟨g, 0, none⟩) n cap) n ((splice l off x).map B8) ∧ w.grownBy w' (some g) := by
  obtain ⟨sp, sCap, rfl, -, -, -, hB⟩ := hS
  by_cases h0 : x.length = 0
  · obtain rfl : x = [] := List.eq_nil_of_length_eq_zero h0
    have hrun := run_copy_none (P := P) w dT sT o.type elem dp sp dLen dCap _ sCap hu hsz (show Nat.min ([] : List UInt8).length dLen = 0 by show min _ _ = 0; simp)
    refine .inl ⟨_, w, ?_, rfl, by rw [splice_nil2]; exact hown, grown_refl _ _⟩
    unfold execOp
    simp only [ho, resolve, invoke, builtin, Sem.run_bind, Sem.run_pure, Result.andThen_ok, List.map_toArray, List.map_cons, List.map_nil, hs, hd, hrun]
    rfl
  · obtain ⟨hl, h2⟩ := hown
    rcases h2 with ⟨h2, -⟩ | ⟨g', cap', cur, hv, hbg, hh, hle, hcap, hcs, htake⟩
    · cases h2
    · simp only [Value.slice.injEq, Option.some.injEq, Addr.mk.injEq, and_true, true_and] at hv
      obtain ⟨rfl, rfl⟩ := hv
      obtain ⟨b, so, rfl, -, hBB⟩ := hB (by intro h; simp [h] at h0)
      obtain rfl := hdp (by omega)
      simp only [Nat.mul_one] at hl hcs htake
      have hcl : cur.toList.length = cap := by simpa using hcs
      have hrun := run_copy_row (P := P) w dT sT o.type elem g off dLen dCap ⟨b, so, none⟩ x.length sCap cur elem (x.map B8) hu hsz hh (by rw [List.length_map]; show _ = min _ _; omega) (fun j v hj => by
        simp only [List.getElem?_map, Option.map_eq_some_iff] at hj
        obtain ⟨y, hy, rfl⟩ := hj
        have := hBB j y hy
        unfold Addr.add
        split
        · rename_i h0; subst h0; simpa using this
        · simpa using this) (by simp; omega) (by intro v hv; simp only [List.mem_map] at hv; obtain ⟨y, -, rfl⟩ := hv; rfl)
      have hset : (w.setRow g (cur.toList.take off ++ (x.map B8 ++ cur.toList.drop (off + (x.map B8).length))).toArray).heap[g]? = some (.cells (cur.toList.take off ++ (x.map B8 ++ cur.toList.drop (off + (x.map B8).length))).toArray elem (0, 0)) := setRow_heap w g _ _ elem _ hh
      rw [List.length_map] at hset hrun
      refine .inl ⟨_, _, ?_, rfl, ⟨?_, .inr ⟨g, cap, _, rfl, hbg, hset, hle, hcap, ?_, ?_⟩⟩, ⟨rfl, rfl, rfl, by simp [World.setRow], fun k hk hne => setRow_other w g k _ (by intro h; exact hne (by rw [h]))⟩⟩
      · unfold execOp
        simp only [ho, resolve, invoke, builtin, Sem.run_bind, Sem.run_pure, Result.andThen_ok, List.map_toArray, List.map_cons, List.map_nil, hs, hd, hrun]
        rw [List.append_assoc]; rfl
      · rw [List.length_map, length_splice _ _ _ (by rw [List.length_map] at hl; omega)]; simpa using hl
      · have := length_splice cur.toList off (x.map B8) (by simp; omega)
        simp only [splice, List.length_map] at this
        simp only [List.size_toArray, this, hcl]; omega
      · have e : cur.toList.take off ++ (x.map B8 ++ cur.toList.drop (off + x.length)) = splice cur.toList off (x.map B8) := by simp [splice]
        rw [e, Nat.mul_one, take_splice2 _ _ _ _ (by rw [List.length_map]; omega) (by omega), htake, map_splice2]
theorem flat_take (L : List (List Value)) (hL : ∀ q ∈ L, q.length = 4) (i : Nat) : L.flatten.take (i * 4) = (L.take i).flatten := by
  induction L generalizing i with
  | nil => simp
  | cons q L ih =>
    have hq := hL q (List.mem_cons_self ..)
    cases i with
    | zero => simp
    | succ i =>
      rw [List.flatten_cons, List.take_succ_cons, List.flatten_cons, List.take_append, hq, show (i + 1) * 4 - 4 = i * 4 by omega, ih (fun x hx => hL x (List.mem_cons_of_mem _ hx)), List.take_of_length_le (by omega)]
theorem flat_drop (L : List (List Value)) (hL : ∀ q ∈ L, q.length = 4) (i : Nat) : L.flatten.drop (i * 4) = (L.drop i).flatten := by
  induction L generalizing i with
  | nil => simp
  | cons q L ih =>
    have hq := hL q (List.mem_cons_self ..)
    cases i with
    | zero => simp
    | succ i =>
      rw [List.flatten_cons, List.drop_succ_cons, List.drop_append, hq, show (i + 1) * 4 - 4 = i * 4 by omega, ih (fun x hx => hL x (List.mem_cons_of_mem _ hx)), List.drop_of_length_le (by omega), List.nil_append]
theorem flat_len (L : List (List Value)) (hL : ∀ q ∈ L, q.length = 4) : L.flatten.length = L.length * 4 := by
  induction L with
  | nil => rfl
  | cons q L ih => rw [List.flatten_cons, List.length_append, List.length_cons, ih (fun x hx => hL x (List.mem_cons_of_mem _ hx)), hL q (List.mem_cons_self ..)]; omega
/-- One of a row's elements is taken out. -/
theorem rqDelete_own {B g cap i : Nat} {L : List (List Value)} {w : World} (hL : ∀ q ∈ L, q.length = 4) (h1 : ∀ q ∈ L, ∀ u ∈ q, u.oneCell' = true) (hi : i < L.length) (ho : w.ownsRow B 136 4 (.slice (some ⟨g, 0, none⟩) L.length cap) L.length L.flatten) :
    Calls Try.prog 78 #[.slice (some ⟨g, 0, none⟩) L.length cap, .int .i64 i, .int .i64 ((i + 1 : Nat) : Int)] w fun e w' => e = .returned (.slice (some ⟨g, 0, none⟩) (L.length - 1) cap) ∧ w'.ownsRow B 136 4 (.slice (some ⟨g, 0, none⟩) (L.length - 1) cap) (L.length - 1) (L.eraseIdx i).flatten ∧ w.grownBy w' (some g) := by
  obtain ⟨hl, h2⟩ := ho
  rcases h2 with ⟨h2, -⟩ | ⟨g', cap', cur, hv, hbg, hh, hle, hcap, hcs, htake⟩
  · cases h2
  · simp only [Value.slice.injEq, Option.some.injEq, Addr.mk.injEq, and_true, true_and] at hv
    obtain ⟨rfl, rfl⟩ := hv
    obtain ⟨m, hm⟩ : ∃ m, L.length = m + 1 := ⟨L.length - 1, by omega⟩
    rw [hm] at htake hle ⊢
    rw [Nat.add_sub_cancel]
    refine (rqDelete_row g cap m i cur w hh hcs (by omega) hle hcap (fun v hv => ?_)).mono ?_
    · rw [htake] at hv
      obtain ⟨q, hq, hv⟩ := List.mem_flatten.1 hv
      exact h1 q hq v hv
    · rintro e w' ⟨rfl, cur', hs', ht', rfl⟩
      have hle' : (L.eraseIdx i).length = m := by rw [List.length_eraseIdx, if_pos hi, hm]; rfl
      have hLe : ∀ q ∈ L.eraseIdx i, q.length = 4 := fun q hq => hL q (List.eraseIdx_subset hq)
      have hx : cur.toList.take (i * 4) ++ (cur.toList.drop ((i + 1) * 4)).take ((m - i) * 4) = (L.eraseIdx i).flatten := by
        have e1 : cur.toList.take (i * 4) = L.flatten.take (i * 4) := by rw [← htake, List.take_take, Nat.min_eq_left (by omega)]
        have e2 : (cur.toList.drop ((i + 1) * 4)).take ((m - i) * 4) = L.flatten.drop ((i + 1) * 4) := by rw [← htake, List.drop_take, show (m + 1) * 4 - (i + 1) * 4 = (m - i) * 4 by omega]
        rw [e1, e2, flat_take L hL, flat_drop L hL, List.eraseIdx_eq_take_drop_succ, List.flatten_append]
      rw [hx] at ht'
      refine ⟨rfl, ⟨by rw [flat_len _ hLe, hle'], .inr ⟨g, cap, cur', rfl, hbg, setRow_heap w g cur cur' _ _ hh, by omega, hcap, by rw [hs', hcs], ht'⟩⟩, ⟨rfl, rfl, rfl, by simp [World.setRow, World.drew], fun k hk hne => setRow_other w g k _ (by intro h; exact hne (by rw [h]))⟩⟩
end Go.Proofs.Ytcglmkcefenjcaa
