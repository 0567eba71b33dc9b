/-
  An outbox in memory: lists of messages, of flights, of packets.
-/
import Derived.Test.YtcglmkcefenjcaaDkD
import Derived.Test.YtcglmkcefenjcaaList
import Derived.Test.YtcglmkcefenjcaaOw2
namespace Go.Proofs.Ytcglmkcefenjcaa
open Go.RowKit
def tblO : List TE := [⟨3, false, 1, [], 0⟩, ⟨4, false, 1, [], 0⟩, ⟨9, false, 1, [], 2⟩, ⟨39, false, 1, [], 0⟩, ⟨55, false, 1, [], 1⟩, ⟨76, false, 1, [], 1⟩, ⟨77, false, 1, [], 1⟩, ⟨79, true, 3, [0, 1, 2], 0⟩, ⟨80, false, 1, [], 1⟩, ⟨82, true, 4, [0, 3], 0⟩, ⟨86, false, 1, [], 1⟩, ⟨88, true, 4, [0, 1, 2, 3], 0⟩, ⟨90, true, 8, [0, 1, 2, 6, 7], 0⟩, ⟨99, true, 24, [0, 1, 2, 3, 4, 9, 10, 11, 12, 13, 14, 15, 16, 17, 18, 19, 20, 21, 22, 23], 0⟩, ⟨103, true, 6, [0, 1, 5], 0⟩, ⟨149, false, 1, [], 0⟩]
theorem tblO_ok : tblO.all (TE.okB Try.prog) = true := by kernel_rfl
instance : TOk Try.prog tblO := ⟨tblO_ok⟩
/-- A message. -/
structure EMsg where
  t : ByteArray
  p : ByteArray
  q : Int
  r : Bool
/-- A message on its way. -/
structure EFl where
  id : Int
  m : EMsg
  rc : Bool
/-- A packet that an outbox sends. -/
structure EPk where
  k : Int
  dup : Bool
  id : Int
  m : EMsg
abbrev rowMsg (x : EMsg) : List Value := [.string x.t, .string x.p, .int .i64 x.q, .bool x.r]
abbrev rowFl (x : EFl) : List Value := [.int .i64 x.id, .string x.m.t, .string x.m.p, .int .i64 x.m.q, .bool x.m.r, .bool x.rc]
abbrev rowPk (x : EPk) : List Value := [.int .i64 x.k, .string { data := #[] }, .bool false, .int .i64 0, .bool false, .string { data := #[] }, .string { data := #[] }, .int .i64 0, .bool false, .string { data := #[] }, .bool false, .string { data := #[] }, .bool false, .bool false, .int .i64 0, .slice none 0 0, .bool x.dup, .int .i64 x.m.q, .bool x.m.r, .string x.m.t, .int .i64 x.id, .string x.m.p, .slice none 0 0, .slice none 0 0]
theorem flatten_take (n : Nat) : ∀ (L : List (List Value)), (∀ q ∈ L, q.length = n) → ∀ k, (L.take k).flatten = L.flatten.take (k * n) := by
  intro L
  induction L with
  | nil => intro _ k; simp
  | cons x t ih =>
    intro hl k
    have hx : x.length = n := hl x (by simp)
    cases k with
    | zero => simp
    | succ k =>
      rw [List.take_succ_cons, List.flatten_cons, List.flatten_cons, ih (fun q hq => hl q (by simp [hq])), Nat.succ_mul, List.take_append, List.take_of_length_le (l := x) (by omega)]
      congr 2; omega
theorem flatten_drop (n : Nat) : ∀ (L : List (List Value)), (∀ q ∈ L, q.length = n) → ∀ k, (L.drop k).flatten = L.flatten.drop (k * n) := by
  intro L
  induction L with
  | nil => intro _ k; simp
  | cons x t ih =>
    intro hl k
    have hx : x.length = n := hl x (by simp)
    cases k with
    | zero => simp
    | succ k =>
      rw [List.drop_succ_cons, List.flatten_cons, ih (fun q hq => hl q (by simp [hq])), Nat.succ_mul, List.drop_append, List.drop_eq_nil_of_le (show x.length ≤ k * n + n by omega), List.nil_append]
      congr 1; omega
theorem infoMs : (Try.prog.info? 88).map (fun i => (i.zero, i.size, i.bytes)) = some (some (.agg #[.string ByteArray.empty, .string ByteArray.empty, .int .i64 0, .bool false]), 4, 48) := by kernel_rfl
theorem zeroMs (w : World) : (zeroValue 88).run Try.prog w = .ok (.agg #[.string ByteArray.empty, .string ByteArray.empty, .int .i64 0, .bool false]) w := by
  obtain ⟨i0, hi, hz0, hz1, hz2⟩ := info_parts infoMs
  simp [zeroValue, typeInfo, hi, hz0]
theorem sizeMs : (Try.prog.info? 88).map (·.size) = some 4 := by kernel_rfl
set_option maxRecDepth 100000 in
set_option maxHeartbeats 2000000 in
theorem dMs_row (g cap m i : Nat) (cur : Array Value) (w : World) (hg : w.heap[g]? = some (.cells cur 88 (0, 0))) (hcs : cur.size = cap * 4) (hi : i ≤ m) (hn : m + 1 ≤ cap) (_hc : cap ≤ maxLen) (h1 : ∀ v ∈ cur.toList.take ((m + 1) * 4), v.oneCell' = true) :
    Calls Try.prog 115 #[.slice (some ⟨g, 0, none⟩) (m + 1) cap, .int .i64 i, .int .i64 ((i + 1 : Nat) : Int)] w fun e w' => e = .returned (.slice (some ⟨g, 0, none⟩) m cap) ∧
      ∃ cur', cur'.size = cur.size ∧ cur'.toList.take (m * 4) = cur.toList.take (i * 4) ++ (cur.toList.drop ((i + 1) * 4)).take ((m - i) * 4) ∧ w' = (w.setRow g cur').drew := by
  unfold maxLen at _hc
  obtain ⟨i0, hi0, hz0, hz1, hz2⟩ := info_parts infoMs
  obtain ⟨xs, hxs⟩ : ∃ xs, xs = (cur.toList.drop ((i + 1) * 4)).take ((m - i) * 4) := ⟨_, rfl⟩
  have hxl : xs.length = (m - i) * 4 := by rw [hxs]; simp; omega
  obtain ⟨ad, had⟩ : ∃ ad : Addr, ad = (if cap = i + 1 then ⟨g, 0, none⟩ else (⟨g, 0, none⟩ : Addr).add ((i + 1) * 4)) := ⟨_, rfl⟩
  have hA := run_append_room (P := Try.prog) w.drew 77 77 88 i0 Try.underlying77 hi0 g i cap cur hg ad (m - i) (cap - (i + 1)) xs
    (by rw [hz1, hxl]) (by
      rw [had, hxs]
      split
      · rw [show m - i = 0 by omega]; simp
      · rw [show (⟨g, 0, none⟩ : Addr).add ((i + 1) * 4) = ⟨g, (i + 1) * 4, none⟩ by simp [Addr.add]]
        exact row_cells hg _ _) (by
      intro v hv
      refine h1 v ?_
      rw [← List.take_append_drop ((i + 1) * 4) (cur.toList.take ((m + 1) * 4)), List.mem_append]
      right
      rw [List.drop_take, show (m + 1) * 4 - (i + 1) * 4 = (m - i) * 4 by omega, ← hxs]
      exact hv) (by omega) (by rw [hz1, hxl]; omega)
  rw [hz1, hxl, show i + (m - i) = m by omega, setRow_drew] at hA
  obtain ⟨c1, hc1⟩ : ∃ c1 : Array Value, c1 = (cur.toList.take (i * 4) ++ xs ++ cur.toList.drop (i * 4 + (m - i) * 4)).toArray := ⟨_, rfl⟩
  rw [← hc1] at hA
  have hs1 : c1.size = cap * 4 := by rw [hc1]; simp [hxl]; omega
  have hg1 : (w.setRow g c1).drew.heap[g]? = some (.cells c1 88 (0, 0)) := setRow_heap w g cur c1 _ _ hg
  obtain ⟨zs, hzl, hC⟩ := ro_clear (P := Try.prog) (w.setRow g c1).drew 77 88 0 _ 4 Try.underlying77 zeroMs rfl (by decide) g (m * 4) 1 (cap - m) c1 _ (by decide) hg1 (by rw [hs1]; omega) (by decide)
  rw [setRow_drew, setRow_setRow] at hC
  obtain ⟨c2, hc2⟩ : ∃ c2 : Array Value, c2 = (c1.toList.take (m * 4) ++ zs ++ c1.toList.drop (m * 4 + 1 * 4)).toArray := ⟨_, rfl⟩
  rw [← hc2] at hC
  have hc1l : c1.toList.length = cap * 4 := by simpa using hs1
  have hs2 : c2.size = cur.size := by rw [hc2, hcs]; simp [hzl, hs1]; omega
  have ht2 : c2.toList.take (m * 4) = cur.toList.take (i * 4) ++ xs := by
    rw [hc2]
    simp only [List.append_assoc]
    rw [List.take_append_of_le_length (by simp [hs1]; omega), List.take_take, Nat.min_self, hc1]
    simp only [List.append_assoc]
    rw [List.take_append, List.length_take, List.take_take, List.take_append_of_le_length (by rw [hxl]; simp; omega), List.take_of_length_le (l := xs) (by rw [hxl]; simp; omega), Nat.min_eq_right (by omega)]
  have HA := Lib.hid hA
  have HC := Lib.hid hC
  have HT := Lib.hid ht2
  have HX := Lib.hid hxs
  have HS := Lib.hid hs2
  have HD := Lib.hid had
  have hmi : (i == m + 1) = false := by simp; omega
  clear hA hC ht2 hxs hs2 had hg1 hs1 hc1 hc2 hc1l hzl hxl hcs hg h1
  go_enter Try.func115, Try.ntmps115
  go_wp2
  refine wp_region_still_tail 6 (by kernel_rfl) (by kernel_rfl) ?_
  simp only [List.take_succ_cons, List.take_zero, List.drop_succ_cons, List.drop_zero]
  change wpStill _ _ w.drew _ _ _
  still_step
  still_step
  refine still_run _ 22 _ rfl rfl (run_sliceOp1 rfl rfl (ro_slice_to _ _ _ Try.underlying77 hi0 _ _ _ _ (by omega))) ?_
  still_step
  still_step
  refine still_run _ 25 (.slice (some ad) (m - i) (cap - (i + 1))) rfl rfl (run_sliceLo (u1 := .slice (some ⟨g, 0, none⟩) (m + 1) cap) _ rfl (show _ = Value.int .i64 ((i + 1 : Nat) : Int) from rfl) (by
    rw [ro_slice_from _ _ _ 4 Try.underlying77 sizeMs _ _ _ _ (by omega), ← HD.out, show m + 1 - (i + 1) = m - i by omega])) ?_
  refine wpStill_nil ?_
  change wpList _ _ _ _ _ w.drew
  go_wp2_with (first | (at_builtin; refine Lib.wpList_append_run _ rfl _ _ _ _ rfl _ _ rfl rfl _ _ HA.out ?_) | (refine wpList_clear_run _ rfl _ _ rfl _ ?hx _ HC.out ?_))
  case hx => simp [Act.eval]
  go_ret
  exact ⟨rfl, c2, HS.out, by rw [HT.out, HX.out], rfl⟩
/-- A list of them, a row of our own. -/
def MsOwn (w : World) (base : Nat) (v : Value) (L : List EMsg) : Prop := w.ownsRow base 88 4 v L.length (L.map rowMsg).flatten
theorem Ms_n (L : List EMsg) : ∀ r ∈ L.map rowMsg, r.length = 4 := by intro r hr; obtain ⟨y, -, rfl⟩ := List.mem_map.1 hr; rfl
theorem Ms_one (L : List EMsg) : ∀ u ∈ (L.map rowMsg).flatten, u.oneCell' = true := by
  intro u hu
  obtain ⟨r, hr, hu⟩ := List.mem_flatten.1 hu
  obtain ⟨y, -, rfl⟩ := List.mem_map.1 hr
  simp at hu
  rcases hu with rfl | rfl | rfl | rfl <;> rfl
theorem MsOwn.slr {w : World} {base : Nat} {v : Value} {L : List EMsg} (h : MsOwn w base v L) : SlR w 4 v (L.map rowMsg) := (SlR.of_own (by decide) (Ms_n L) h).1
theorem MsOwn.below {w w' : World} {base : Nat} {v : Value} {L : List EMsg} (h : MsOwn w base v L) (hb : Below w.heap.size w w') : MsOwn w' base v L := below_own h hb
theorem MsOwn.nil (w : World) (base : Nat) : MsOwn w base (.slice none 0 0) [] := World.ownsRow_nil _ _ _ _
set_option maxRecDepth 100000 in
set_option maxHeartbeats 1000000 in
theorem cMs_any (v : Value) (L : List EMsg) (w : World) (hl : L.length ≤ 1000000) (hv : SlR w 4 v (L.map rowMsg)) :
    Calls Try.prog 113 #[v] w fun e w' => ∃ v', e = .returned v' ∧ Below w.heap.size w w' ∧ MsOwn w' w.heap.size v' L := by
  obtain ⟨ao, cap, rfl, hcl, hcm, hn, -⟩ := id hv
  rw [List.length_map] at hcl
  obtain ⟨i0, hi, hz0, hz1, hz2⟩ := info_parts infoMs
  have hen : ∀ (wx : World) (a : Option Addr) (n c : Nat), (binOp .eql 77 (.slice a n c) (.slice none 0 0)).run Try.prog wx = .ok (.bool a.isNone) wx := fun wx a n c => Lib.run_eql_slice_nil wx _ _ a n c 0 0 Try.underlying77
  cases ao with
  | none =>
    have hc := hn rfl
    have hl0 : L = [] := List.eq_nil_of_length_eq_zero (by omega)
    subst hl0 hc
    go_enter Try.func113, Try.ntmps113
    go_wp2
    go_ret
    exact ⟨_, rfl, Below.refl _ _, World.ownsRow_nil _ _ _ _⟩
  | some ad =>
    have hown : (w.alloc (.cells #[] 88)).ownsRow w.heap.size 88 4 (.slice (some ⟨w.heap.size, 0, none⟩) 0 0) 0 [] := World.ownsRow_made w #[] 0 (Nat.le_refl _) (by simp) rfl
    have hnews := SlR.news (by decide) (Ms_n L) (hv.below ((Below.refl _ w).alloc (Nat.le_refl _) (.cells #[] 88)))
    have hfl : ((L.map rowMsg).flatten).length = L.length * 4 := by rw [flatten_len _ (Ms_n L), List.length_map]
    have h1 := Ms_one L
    rw [List.length_map]
    unfold MsOwn
    generalize (L.map rowMsg).flatten = xs at *
    have HN := Lib.hid hnews
    have H1 := Lib.hid h1
    have HF := Lib.hid hfl
    clear hnews hn h1 hfl hv
    go_enter Try.func113, Try.ntmps113
    go_wp2_with (first
      | (at_builtin; refine wpList_append_at _ rfl _ _ 77 rfl w.heap.size 88 i0 (.agg #[.string ByteArray.empty, .string ByteArray.empty, .int .i64 0, .bool false]) 4 48 Try.underlying77 hi hz0 hz1 hz2 rfl (by decide) _ _ _ rfl hown ad L.length cap xs rfl ?c0 ?c1 ?c2 ?c3 ?c4 ?c5 ?_))
    case c0 => exact HF.out
    case c1 => exact HN.out
    case c2 => exact H1.out
    case c3 => unfold maxLen; omega
    case c4 => omega
    case c5 => simp
    intro v' w1 hown' hgrow hat
    have hb : Below w.heap.size w w1 := ((Below.refl _ w).alloc (Nat.le_refl _) _).grown hgrow (by simp) (by intro k hk; simp [Value.ownBlock] at hk; omega)
    have HO := Lib.hid hown'
    clear hown' hgrow hat
    go_wp2
    go_ret
    exact ⟨_, rfl, hb, HO.out⟩
theorem dMs_any (base i : Nat) (v : Value) (L : List EMsg) (w : World) (hown : MsOwn w base v L) (hi : i < L.length) :
    Calls Try.prog 115 #[v, .int .i64 i, .int .i64 ((i + 1 : Nat) : Int)] w fun e w' => ∃ v', e = .returned v' ∧ MsOwn w' base v' (L.eraseIdx i) ∧ Grew w w' v v' := by
  have hone := Ms_one L
  have hlen : (L.eraseIdx i).length = L.length - 1 := by rw [List.length_eraseIdx, if_pos hi]
  have hfl : ((L.map rowMsg).flatten).length = L.length * 4 := by rw [flatten_len _ (Ms_n L), List.length_map]
  have hgoal : ((L.eraseIdx i).map rowMsg).flatten = ((L.map rowMsg).flatten).take (i * 4) ++ ((L.map rowMsg).flatten).drop ((i + 1) * 4) := by
    rw [List.eraseIdx_eq_take_drop_succ, List.map_append, List.flatten_append, List.map_take, List.map_drop, flatten_take 4 _ (Ms_n L), flatten_drop 4 _ (Ms_n L)]
  unfold MsOwn at *
  rw [hgoal, hlen]
  generalize (L.map rowMsg).flatten = xs at *
  generalize L.length = n at *
  obtain ⟨m, rfl⟩ : ∃ m, n = m + 1 := ⟨n - 1, by omega⟩
  rcases hown.2 with ⟨rfl, h0⟩ | ⟨g, cap, cur, rfl, hbg, hg, hnc, hcm, hcs, htake⟩
  · omega
  · refine (dMs_row g cap m i cur w hg hcs (by omega) hnc hcm (by rw [htake]; exact hone)).mono ?_
    rintro e w' ⟨rfl, c2, hs2, ht2, rfl⟩
    have e1 : cur.toList.take (i * 4) = xs.take (i * 4) := by rw [← htake, List.take_take, Nat.min_eq_left (by omega)]
    have e2 : (cur.toList.drop ((i + 1) * 4)).take ((m - i) * 4) = xs.drop ((i + 1) * 4) := by rw [← htake, List.drop_take]; congr 1; omega
    refine ⟨_, rfl, ⟨by rw [List.length_append, List.length_take, List.length_drop, hfl]; omega, .inr ⟨g, cap, c2, rfl, hbg, setRow_heap w g cur c2 _ _ hg, by omega, hcm, by rw [hs2, hcs], by rw [show m + 1 - 1 = m by omega, ht2, e1, e2]⟩⟩,
      ⟨rfl, rfl, rfl, by show w.heap.size ≤ (w.setRow g c2).heap.size; rw [setRow_size]; exact Nat.le_refl _, fun k _ hk => setRow_other w g k c2 (fun e => hk (by simp [Value.ownBlock, e]))⟩, .inl rfl⟩
theorem MsOwn.mono {w : World} {base base' : Nat} {v : Value} {L : List EMsg} (h : MsOwn w base v L) (hb : base' ≤ base) : MsOwn w base' v L := own_mono h hb
/-- One more, behind the others. -/
theorem Ms_app {o : Oper} {a : Act} {w : World} (s x : Operand) (ho : o.op = .call { callee := .builtin .append, args := #[s, x], argTypes := #[77, 77] }) {base q : Nat} {v : Value} {L : List EMsg} {e : EMsg} (hs : a.eval s = v) (hown : MsOwn w base v L) (hx : a.eval x = .slice (some ⟨q, 0, none⟩) 1 1) (hr : RowAt w q (rowMsg e)) (hn : L.length ≤ 100000) (hbase : base ≤ w.heap.size) :
    opTo Try.prog o a w fun v' w' => Grew w w' v v' ∧ MsOwn w' base v' (L ++ [e]) := by
  obtain ⟨i0, hi, hz0, hz1, hz2⟩ := info_parts infoMs
  have h := opTo_app s x 77 88 ho base i0 _ 4 48 Try.underlying77 hi hz0 hz1 hz2 rfl (by decide) v L.length _ hs hown ⟨q, 0, none⟩ 1 1 (rowMsg e) hx rfl (fun j u' hj => by
    have e' : ((⟨q, 0, none⟩ : Addr).add j) = ⟨q, j, none⟩ := by unfold Addr.add; split <;> simp_all
    rw [e']; exact hr.1 j u' hj) (fun u' hu => by
      have := Ms_one [e] u' (by simpa using hu); exact this) (by unfold maxLen; omega) (by omega) hbase
  unfold MsOwn
  rw [List.length_append, List.length_singleton, List.map_append, List.flatten_append, show ([e].map rowMsg).flatten = rowMsg e by simp]
  exact h
section
variable {ρ : Operand → Value} {d : Option Tmp} {ty : TypeId} {pos : String} {af : Array Edge} {g : Option (Nat × Bool)}
theorem bsMs {x : Operand} (s : EMsg) (w : World) (hx : ρ x = .agg (rowMsg s).toArray) : (execOp ρ ⟨d, .buildSlice 77 1 #[(0, x)], ty, pos, af, g⟩).run Try.prog w = .ok (.value (.slice (some ⟨w.heap.size, 0, none⟩) 1 1)) (w.alloc (.cells (rowMsg s).toArray 88)) := by
  simp [execOp, hx, go_sem, Instr.buildSlice, rowMsg]
end
theorem idxMs (b off n cap i : Nat) (hi : i < n) (w : World) : (Instr.indexAt 77 (.slice (some ⟨b, off, none⟩) n cap) (.int .i64 (i : Int))).run Try.prog w = .ok (.pointer (some ⟨b, off + i * 4, none⟩)) w := by
  have h2 : ¬ n ≤ i := by omega
  simp [go_sem, Instr.indexAt, h2]
theorem ldMs {W : World} {b o : Nat} {x : EMsg} (h : ∀ j u, (rowMsg x)[j]? = some u → W.cell? ⟨b, o + j, none⟩ = some u) : (Instr.loadAt 88 (.pointer (some ⟨b, o, none⟩))).run Try.prog W = .ok (.agg (rowMsg x).toArray) W :=
  run_loadAt_mid W b o _ (rowMsg x) _ h Try.underlying88 rfl (by kernel_rfl)
theorem infoFl : (Try.prog.info? 103).map (fun i => (i.zero, i.size, i.bytes)) = some (some (.agg #[.int .i64 0, .string ByteArray.empty, .string ByteArray.empty, .int .i64 0, .bool false, .bool false]), 6, 64) := by kernel_rfl
theorem zeroFl (w : World) : (zeroValue 103).run Try.prog w = .ok (.agg #[.int .i64 0, .string ByteArray.empty, .string ByteArray.empty, .int .i64 0, .bool false, .bool false]) w := by
  obtain ⟨i0, hi, hz0, hz1, hz2⟩ := info_parts infoFl
  simp [zeroValue, typeInfo, hi, hz0]
theorem sizeFl : (Try.prog.info? 103).map (·.size) = some 6 := by kernel_rfl
set_option maxRecDepth 100000 in
set_option maxHeartbeats 2000000 in
theorem dFl_row (g cap m i : Nat) (cur : Array Value) (w : World) (hg : w.heap[g]? = some (.cells cur 103 (0, 0))) (hcs : cur.size = cap * 6) (hi : i ≤ m) (hn : m + 1 ≤ cap) (_hc : cap ≤ maxLen) (h1 : ∀ v ∈ cur.toList.take ((m + 1) * 6), v.oneCell' = true) :
    Calls Try.prog 116 #[.slice (some ⟨g, 0, none⟩) (m + 1) cap, .int .i64 i, .int .i64 ((i + 1 : Nat) : Int)] w fun e w' => e = .returned (.slice (some ⟨g, 0, none⟩) m cap) ∧
      ∃ cur', cur'.size = cur.size ∧ cur'.toList.take (m * 6) = cur.toList.take (i * 6) ++ (cur.toList.drop ((i + 1) * 6)).take ((m - i) * 6) ∧ w' = (w.setRow g cur').drew := by
  unfold maxLen at _hc
  obtain ⟨i0, hi0, hz0, hz1, hz2⟩ := info_parts infoFl
  obtain ⟨xs, hxs⟩ : ∃ xs, xs = (cur.toList.drop ((i + 1) * 6)).take ((m - i) * 6) := ⟨_, rfl⟩
  have hxl : xs.length = (m - i) * 6 := by rw [hxs]; simp; omega
  obtain ⟨ad, had⟩ : ∃ ad : Addr, ad = (if cap = i + 1 then ⟨g, 0, none⟩ else (⟨g, 0, none⟩ : Addr).add ((i + 1) * 6)) := ⟨_, rfl⟩
  have hA := run_append_room (P := Try.prog) w.drew 76 76 103 i0 Try.underlying76 hi0 g i cap cur hg ad (m - i) (cap - (i + 1)) xs
    (by rw [hz1, hxl]) (by
      rw [had, hxs]
      split
      · rw [show m - i = 0 by omega]; simp
      · rw [show (⟨g, 0, none⟩ : Addr).add ((i + 1) * 6) = ⟨g, (i + 1) * 6, none⟩ by simp [Addr.add]]
        exact row_cells hg _ _) (by
      intro v hv
      refine h1 v ?_
      rw [← List.take_append_drop ((i + 1) * 6) (cur.toList.take ((m + 1) * 6)), List.mem_append]
      right
      rw [List.drop_take, show (m + 1) * 6 - (i + 1) * 6 = (m - i) * 6 by omega, ← hxs]
      exact hv) (by omega) (by rw [hz1, hxl]; omega)
  rw [hz1, hxl, show i + (m - i) = m by omega, setRow_drew] at hA
  obtain ⟨c1, hc1⟩ : ∃ c1 : Array Value, c1 = (cur.toList.take (i * 6) ++ xs ++ cur.toList.drop (i * 6 + (m - i) * 6)).toArray := ⟨_, rfl⟩
  rw [← hc1] at hA
  have hs1 : c1.size = cap * 6 := by rw [hc1]; simp [hxl]; omega
  have hg1 : (w.setRow g c1).drew.heap[g]? = some (.cells c1 103 (0, 0)) := setRow_heap w g cur c1 _ _ hg
  obtain ⟨zs, hzl, hC⟩ := ro_clear (P := Try.prog) (w.setRow g c1).drew 76 103 0 _ 6 Try.underlying76 zeroFl rfl (by decide) g (m * 6) 1 (cap - m) c1 _ (by decide) hg1 (by rw [hs1]; omega) (by decide)
  rw [setRow_drew, setRow_setRow] at hC
  obtain ⟨c2, hc2⟩ : ∃ c2 : Array Value, c2 = (c1.toList.take (m * 6) ++ zs ++ c1.toList.drop (m * 6 + 1 * 6)).toArray := ⟨_, rfl⟩
  rw [← hc2] at hC
  have hc1l : c1.toList.length = cap * 6 := by simpa using hs1
  have hs2 : c2.size = cur.size := by rw [hc2, hcs]; simp [hzl, hs1]; omega
  have ht2 : c2.toList.take (m * 6) = cur.toList.take (i * 6) ++ xs := by
    rw [hc2]
    simp only [List.append_assoc]
    rw [List.take_append_of_le_length (by simp [hs1]; omega), List.take_take, Nat.min_self, hc1]
    simp only [List.append_assoc]
    rw [List.take_append, List.length_take, List.take_take, List.take_append_of_le_length (by rw [hxl]; simp; omega), List.take_of_length_le (l := xs) (by rw [hxl]; simp; omega), Nat.min_eq_right (by omega)]
  have HA := Lib.hid hA
  have HC := Lib.hid hC
  have HT := Lib.hid ht2
  have HX := Lib.hid hxs
  have HS := Lib.hid hs2
  have HD := Lib.hid had
  have hmi : (i == m + 1) = false := by simp; omega
  clear hA hC ht2 hxs hs2 had hg1 hs1 hc1 hc2 hc1l hzl hxl hcs hg h1
  go_enter Try.func116, Try.ntmps116
  go_wp2
  refine wp_region_still_tail 6 (by kernel_rfl) (by kernel_rfl) ?_
  simp only [List.take_succ_cons, List.take_zero, List.drop_succ_cons, List.drop_zero]
  change wpStill _ _ w.drew _ _ _
  still_step
  still_step
  refine still_run _ 22 _ rfl rfl (run_sliceOp1 rfl rfl (ro_slice_to _ _ _ Try.underlying76 hi0 _ _ _ _ (by omega))) ?_
  still_step
  still_step
  refine still_run _ 25 (.slice (some ad) (m - i) (cap - (i + 1))) rfl rfl (run_sliceLo (u1 := .slice (some ⟨g, 0, none⟩) (m + 1) cap) _ rfl (show _ = Value.int .i64 ((i + 1 : Nat) : Int) from rfl) (by
    rw [ro_slice_from _ _ _ 6 Try.underlying76 sizeFl _ _ _ _ (by omega), ← HD.out, show m + 1 - (i + 1) = m - i by omega])) ?_
  refine wpStill_nil ?_
  change wpList _ _ _ _ _ w.drew
  go_wp2_with (first | (at_builtin; refine Lib.wpList_append_run _ rfl _ _ _ _ rfl _ _ rfl rfl _ _ HA.out ?_) | (refine wpList_clear_run _ rfl _ _ rfl _ ?hx _ HC.out ?_))
  case hx => simp [Act.eval]
  go_ret
  exact ⟨rfl, c2, HS.out, by rw [HT.out, HX.out], rfl⟩
/-- A list of them, a row of our own. -/
def FlOwn (w : World) (base : Nat) (v : Value) (L : List EFl) : Prop := w.ownsRow base 103 6 v L.length (L.map rowFl).flatten
theorem Fl_n (L : List EFl) : ∀ r ∈ L.map rowFl, r.length = 6 := by intro r hr; obtain ⟨y, -, rfl⟩ := List.mem_map.1 hr; rfl
theorem Fl_one (L : List EFl) : ∀ u ∈ (L.map rowFl).flatten, u.oneCell' = true := by
  intro u hu
  obtain ⟨r, hr, hu⟩ := List.mem_flatten.1 hu
  obtain ⟨y, -, rfl⟩ := List.mem_map.1 hr
  simp at hu
  rcases hu with rfl | rfl | rfl | rfl | rfl | rfl <;> rfl
theorem FlOwn.slr {w : World} {base : Nat} {v : Value} {L : List EFl} (h : FlOwn w base v L) : SlR w 6 v (L.map rowFl) := (SlR.of_own (by decide) (Fl_n L) h).1
theorem FlOwn.below {w w' : World} {base : Nat} {v : Value} {L : List EFl} (h : FlOwn w base v L) (hb : Below w.heap.size w w') : FlOwn w' base v L := below_own h hb
theorem FlOwn.nil (w : World) (base : Nat) : FlOwn w base (.slice none 0 0) [] := World.ownsRow_nil _ _ _ _
set_option maxRecDepth 100000 in
set_option maxHeartbeats 1000000 in
theorem cFl_any (v : Value) (L : List EFl) (w : World) (hl : L.length ≤ 1000000) (hv : SlR w 6 v (L.map rowFl)) :
    Calls Try.prog 112 #[v] w fun e w' => ∃ v', e = .returned v' ∧ Below w.heap.size w w' ∧ FlOwn w' w.heap.size v' L := by
  obtain ⟨ao, cap, rfl, hcl, hcm, hn, -⟩ := id hv
  rw [List.length_map] at hcl
  obtain ⟨i0, hi, hz0, hz1, hz2⟩ := info_parts infoFl
  have hen : ∀ (wx : World) (a : Option Addr) (n c : Nat), (binOp .eql 76 (.slice a n c) (.slice none 0 0)).run Try.prog wx = .ok (.bool a.isNone) wx := fun wx a n c => Lib.run_eql_slice_nil wx _ _ a n c 0 0 Try.underlying76
  cases ao with
  | none =>
    have hc := hn rfl
    have hl0 : L = [] := List.eq_nil_of_length_eq_zero (by omega)
    subst hl0 hc
    go_enter Try.func112, Try.ntmps112
    go_wp2
    go_ret
    exact ⟨_, rfl, Below.refl _ _, World.ownsRow_nil _ _ _ _⟩
  | some ad =>
    have hown : (w.alloc (.cells #[] 103)).ownsRow w.heap.size 103 6 (.slice (some ⟨w.heap.size, 0, none⟩) 0 0) 0 [] := World.ownsRow_made w #[] 0 (Nat.le_refl _) (by simp) rfl
    have hnews := SlR.news (by decide) (Fl_n L) (hv.below ((Below.refl _ w).alloc (Nat.le_refl _) (.cells #[] 103)))
    have hfl : ((L.map rowFl).flatten).length = L.length * 6 := by rw [flatten_len _ (Fl_n L), List.length_map]
    have h1 := Fl_one L
    rw [List.length_map]
    unfold FlOwn
    generalize (L.map rowFl).flatten = xs at *
    have HN := Lib.hid hnews
    have H1 := Lib.hid h1
    have HF := Lib.hid hfl
    clear hnews hn h1 hfl hv
    go_enter Try.func112, Try.ntmps112
    go_wp2_with (first
      | (at_builtin; refine wpList_append_at _ rfl _ _ 76 rfl w.heap.size 103 i0 (.agg #[.int .i64 0, .string ByteArray.empty, .string ByteArray.empty, .int .i64 0, .bool false, .bool false]) 6 64 Try.underlying76 hi hz0 hz1 hz2 rfl (by decide) _ _ _ rfl hown ad L.length cap xs rfl ?c0 ?c1 ?c2 ?c3 ?c4 ?c5 ?_))
    case c0 => exact HF.out
    case c1 => exact HN.out
    case c2 => exact H1.out
    case c3 => unfold maxLen; omega
    case c4 => omega
    case c5 => simp
    intro v' w1 hown' hgrow hat
    have hb : Below w.heap.size w w1 := ((Below.refl _ w).alloc (Nat.le_refl _) _).grown hgrow (by simp) (by intro k hk; simp [Value.ownBlock] at hk; omega)
    have HO := Lib.hid hown'
    clear hown' hgrow hat
    go_wp2
    go_ret
    exact ⟨_, rfl, hb, HO.out⟩
theorem dFl_any (base i : Nat) (v : Value) (L : List EFl) (w : World) (hown : FlOwn w base v L) (hi : i < L.length) :
    Calls Try.prog 116 #[v, .int .i64 i, .int .i64 ((i + 1 : Nat) : Int)] w fun e w' => ∃ v', e = .returned v' ∧ FlOwn w' base v' (L.eraseIdx i) ∧ Grew w w' v v' := by
  have hone := Fl_one L
  have hlen : (L.eraseIdx i).length = L.length - 1 := by rw [List.length_eraseIdx, if_pos hi]
  have hfl : ((L.map rowFl).flatten).length = L.length * 6 := by rw [flatten_len _ (Fl_n L), List.length_map]
  have hgoal : ((L.eraseIdx i).map rowFl).flatten = ((L.map rowFl).flatten).take (i * 6) ++ ((L.map rowFl).flatten).drop ((i + 1) * 6) := by
    rw [List.eraseIdx_eq_take_drop_succ, List.map_append, List.flatten_append, List.map_take, List.map_drop, flatten_take 6 _ (Fl_n L), flatten_drop 6 _ (Fl_n L)]
  unfold FlOwn at *
  rw [hgoal, hlen]
  generalize (L.map rowFl).flatten = xs at *
  generalize L.length = n at *
  obtain ⟨m, rfl⟩ : ∃ m, n = m + 1 := ⟨n - 1, by omega⟩
  rcases hown.2 with ⟨rfl, h0⟩ | ⟨g, cap, cur, rfl, hbg, hg, hnc, hcm, hcs, htake⟩
  · omega
  · refine (dFl_row g cap m i cur w hg hcs (by omega) hnc hcm (by rw [htake]; exact hone)).mono ?_
    rintro e w' ⟨rfl, c2, hs2, ht2, rfl⟩
    have e1 : cur.toList.take (i * 6) = xs.take (i * 6) := by rw [← htake, List.take_take, Nat.min_eq_left (by omega)]
    have e2 : (cur.toList.drop ((i + 1) * 6)).take ((m - i) * 6) = xs.drop ((i + 1) * 6) := by rw [← htake, List.drop_take]; congr 1; omega
    refine ⟨_, rfl, ⟨by rw [List.length_append, List.length_take, List.length_drop, hfl]; omega, .inr ⟨g, cap, c2, rfl, hbg, setRow_heap w g cur c2 _ _ hg, by omega, hcm, by rw [hs2, hcs], by rw [show m + 1 - 1 = m by omega, ht2, e1, e2]⟩⟩,
      ⟨rfl, rfl, rfl, by show w.heap.size ≤ (w.setRow g c2).heap.size; rw [setRow_size]; exact Nat.le_refl _, fun k _ hk => setRow_other w g k c2 (fun e => hk (by simp [Value.ownBlock, e]))⟩, .inl rfl⟩
theorem FlOwn.mono {w : World} {base base' : Nat} {v : Value} {L : List EFl} (h : FlOwn w base v L) (hb : base' ≤ base) : FlOwn w base' v L := own_mono h hb
/-- One more, behind the others. -/
theorem Fl_app {o : Oper} {a : Act} {w : World} (s x : Operand) (ho : o.op = .call { callee := .builtin .append, args := #[s, x], argTypes := #[76, 76] }) {base q : Nat} {v : Value} {L : List EFl} {e : EFl} (hs : a.eval s = v) (hown : FlOwn w base v L) (hx : a.eval x = .slice (some ⟨q, 0, none⟩) 1 1) (hr : RowAt w q (rowFl e)) (hn : L.length ≤ 100000) (hbase : base ≤ w.heap.size) :
    opTo Try.prog o a w fun v' w' => Grew w w' v v' ∧ FlOwn w' base v' (L ++ [e]) := by
  obtain ⟨i0, hi, hz0, hz1, hz2⟩ := info_parts infoFl
  have h := opTo_app s x 76 103 ho base i0 _ 6 64 Try.underlying76 hi hz0 hz1 hz2 rfl (by decide) v L.length _ hs hown ⟨q, 0, none⟩ 1 1 (rowFl e) hx rfl (fun j u' hj => by
    have e' : ((⟨q, 0, none⟩ : Addr).add j) = ⟨q, j, none⟩ := by unfold Addr.add; split <;> simp_all
    rw [e']; exact hr.1 j u' hj) (fun u' hu => by
      have := Fl_one [e] u' (by simpa using hu); exact this) (by unfold maxLen; omega) (by omega) hbase
  unfold FlOwn
  rw [List.length_append, List.length_singleton, List.map_append, List.flatten_append, show ([e].map rowFl).flatten = rowFl e by simp]
  exact h
section
variable {ρ : Operand → Value} {d : Option Tmp} {ty : TypeId} {pos : String} {af : Array Edge} {g : Option (Nat × Bool)}
theorem bsFl {x : Operand} (s : EFl) (w : World) (hx : ρ x = .agg (rowFl s).toArray) : (execOp ρ ⟨d, .buildSlice 76 1 #[(0, x)], ty, pos, af, g⟩).run Try.prog w = .ok (.value (.slice (some ⟨w.heap.size, 0, none⟩) 1 1)) (w.alloc (.cells (rowFl s).toArray 103)) := by
  simp [execOp, hx, go_sem, Instr.buildSlice, rowFl]
end
theorem idxFl (b off n cap i : Nat) (hi : i < n) (w : World) : (Instr.indexAt 76 (.slice (some ⟨b, off, none⟩) n cap) (.int .i64 (i : Int))).run Try.prog w = .ok (.pointer (some ⟨b, off + i * 6, none⟩)) w := by
  have h2 : ¬ n ≤ i := by omega
  simp [go_sem, Instr.indexAt, h2]
theorem ldFl {W : World} {b o : Nat} {x : EFl} (h : ∀ j u, (rowFl x)[j]? = some u → W.cell? ⟨b, o + j, none⟩ = some u) : (Instr.loadAt 103 (.pointer (some ⟨b, o, none⟩))).run Try.prog W = .ok (.agg (rowFl x).toArray) W :=
  run_loadAt_mid W b o _ (rowFl x) _ h Try.underlying103 rfl (by kernel_rfl)
theorem infoPk : (Try.prog.info? 99).map (fun i => (i.zero, i.size, i.bytes)) = some (some (.agg #[.int .i64 0, .string ByteArray.empty, .bool false, .int .i64 0, .bool false, .string ByteArray.empty, .string ByteArray.empty, .int .i64 0, .bool false, .string ByteArray.empty, .bool false, .string ByteArray.empty, .bool false, .bool false, .int .i64 0, .slice none 0 0, .bool false, .int .i64 0, .bool false, .string ByteArray.empty, .int .i64 0, .string ByteArray.empty, .slice none 0 0, .slice none 0 0]), 24, 288) := by kernel_rfl
theorem sizePk : (Try.prog.info? 99).map (·.size) = some 24 := by kernel_rfl
/-- A list of them, a row of our own. -/
def PkOwn (w : World) (base : Nat) (v : Value) (L : List EPk) : Prop := w.ownsRow base 99 24 v L.length (L.map rowPk).flatten
theorem Pk_n (L : List EPk) : ∀ r ∈ L.map rowPk, r.length = 24 := by intro r hr; obtain ⟨y, -, rfl⟩ := List.mem_map.1 hr; rfl
theorem Pk_one (L : List EPk) : ∀ u ∈ (L.map rowPk).flatten, u.oneCell' = true := by
  intro u hu
  obtain ⟨r, hr, hu⟩ := List.mem_flatten.1 hu
  obtain ⟨y, -, rfl⟩ := List.mem_map.1 hr
  simp at hu
  rcases hu with rfl | rfl | rfl | rfl | rfl | rfl | rfl | rfl | rfl | rfl | rfl | rfl | rfl | rfl | rfl | rfl | rfl | rfl | rfl | rfl | rfl | rfl | rfl | rfl <;> rfl
theorem PkOwn.slr {w : World} {base : Nat} {v : Value} {L : List EPk} (h : PkOwn w base v L) : SlR w 24 v (L.map rowPk) := (SlR.of_own (by decide) (Pk_n L) h).1
theorem PkOwn.below {w w' : World} {base : Nat} {v : Value} {L : List EPk} (h : PkOwn w base v L) (hb : Below w.heap.size w w') : PkOwn w' base v L := below_own h hb
theorem PkOwn.nil (w : World) (base : Nat) : PkOwn w base (.slice none 0 0) [] := World.ownsRow_nil _ _ _ _
theorem PkOwn.mono {w : World} {base base' : Nat} {v : Value} {L : List EPk} (h : PkOwn w base v L) (hb : base' ≤ base) : PkOwn w base' v L := own_mono h hb
/-- One more, behind the others. -/
theorem Pk_app {o : Oper} {a : Act} {w : World} (s x : Operand) (ho : o.op = .call { callee := .builtin .append, args := #[s, x], argTypes := #[86, 86] }) {base q : Nat} {v : Value} {L : List EPk} {e : EPk} (hs : a.eval s = v) (hown : PkOwn w base v L) (hx : a.eval x = .slice (some ⟨q, 0, none⟩) 1 1) (hr : RowAt w q (rowPk e)) (hn : L.length ≤ 100000) (hbase : base ≤ w.heap.size) :
    opTo Try.prog o a w fun v' w' => Grew w w' v v' ∧ PkOwn w' base v' (L ++ [e]) := by
  obtain ⟨i0, hi, hz0, hz1, hz2⟩ := info_parts infoPk
  have h := opTo_app s x 86 99 ho base i0 _ 24 288 Try.underlying86 hi hz0 hz1 hz2 rfl (by decide) v L.length _ hs hown ⟨q, 0, none⟩ 1 1 (rowPk e) hx rfl (fun j u' hj => by
    have e' : ((⟨q, 0, none⟩ : Addr).add j) = ⟨q, j, none⟩ := by unfold Addr.add; split <;> simp_all
    rw [e']; exact hr.1 j u' hj) (fun u' hu => by
      have := Pk_one [e] u' (by simpa using hu); exact this) (by unfold maxLen; omega) (by omega) hbase
  unfold PkOwn
  rw [List.length_append, List.length_singleton, List.map_append, List.flatten_append, show ([e].map rowPk).flatten = rowPk e by simp]
  exact h
section
variable {ρ : Operand → Value} {d : Option Tmp} {ty : TypeId} {pos : String} {af : Array Edge} {g : Option (Nat × Bool)}
theorem bsPk {x : Operand} (s : EPk) (w : World) (hx : ρ x = .agg (rowPk s).toArray) : (execOp ρ ⟨d, .buildSlice 86 1 #[(0, x)], ty, pos, af, g⟩).run Try.prog w = .ok (.value (.slice (some ⟨w.heap.size, 0, none⟩) 1 1)) (w.alloc (.cells (rowPk s).toArray 99)) := by
  simp [execOp, hx, go_sem, Instr.buildSlice, rowPk]
end
theorem idxPk (b off n cap i : Nat) (hi : i < n) (w : World) : (Instr.indexAt 86 (.slice (some ⟨b, off, none⟩) n cap) (.int .i64 (i : Int))).run Try.prog w = .ok (.pointer (some ⟨b, off + i * 24, none⟩)) w := by
  have h2 : ¬ n ≤ i := by omega
  simp [go_sem, Instr.indexAt, h2]
theorem ldPk {W : World} {b o : Nat} {x : EPk} (h : ∀ j u, (rowPk x)[j]? = some u → W.cell? ⟨b, o + j, none⟩ = some u) : (Instr.loadAt 99 (.pointer (some ⟨b, o, none⟩))).run Try.prog W = .ok (.agg (rowPk x).toArray) W :=
  run_loadAt_mid W b o _ (rowPk x) _ h Try.underlying99 rfl (by kernel_rfl)
theorem slR_at {W : World} {n i k c : Nat} {a : Option Addr} {L : List (List Value)} {q : List Value} (h : SlR W n (.slice a k c) L) (hi : L[i]? = some q) : ∃ b off, a = some ⟨b, off, none⟩ ∧ b < W.heap.size ∧ ∀ j u, q[j]? = some u → W.cell? ⟨b, off + i * n + j, none⟩ = some u := by
  obtain ⟨ao, cap, e, h1, h2, h3, h4⟩ := id h
  injection e with e1 e2 e3
  obtain ⟨b, off, e4, hb, hq⟩ := h4 (by rintro rfl; simp at hi)
  exact ⟨b, off, e1.trans e4, hb, fun j u hj => hq i q hi j u hj⟩
theorem slR_len {W : World} {n k c : Nat} {a : Option Addr} {L : List (List Value)} (h : SlR W n (.slice a k c) L) : k = L.length := by
  obtain ⟨ao, cap, e, -⟩ := h
  injection e with e1 e2 e3
theorem all_take {α : Type} {p : α → Bool} {l : List α} {i : Nat} {x : α} (h : (l.take i).all p = true) (hx : l[i]? = some x) (hp : p x = true) : (l.take (i + 1)).all p = true := by
  rw [List.take_add_one, hx, List.all_append, h]; simp [hp]
theorem all_no {α : Type} {p : α → Bool} {l : List α} {i : Nat} {x : α} (hx : l[i]? = some x) (hp : p x = false) : l.all p = false := by
  cases h : l.all p with
  | false => rfl
  | true => rw [List.all_eq_true.1 h x (List.mem_of_getElem? hx)] at hp; cases hp
end Go.Proofs.Ytcglmkcefenjcaa
