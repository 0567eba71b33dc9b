/-
  The page's own reassembling.
-/
import Derived.Test.YtjgbiffgmafhmaaReW
import Derived.Test.YtjgbiffgmafhmaaReK
import Derived.Test.YtjgbiffgmafhmaaReM
namespace Go.Proofs.Ytjgbiffgmafhmaa
open Go.RowKit Go.Lib
theorem off_at {a b : Int} {c : Nat} (ha : 0 ≤ a ∧ a < 4294967296) (hb : 0 ≤ b ∧ b < 4294967296) (h : offv a b = c) (w : World) : Calls Try.prog 46 #[.int .i64 a, .int .i64 b] w fun e w' => e = .returned (.int .i64 (c : Int)) ∧ w = w' := by
  have := off_any a b w ha hb
  rwa [show (a - b) % 4294967296 = (c : Int) from h] at this
theorem toldN_le2 {V : Win} (h : V.length = 2048) : toldN V ≤ 2048 := by have := toldN_le V; omega
theorem sl_to2048 (ad : Addr) (j : Nat) (hj : j ≤ 2048) (w : World) : (Instr.sliceAt 34 (.slice (some ad) 2048 2048) none (some (.int .i64 (j : Int))) none).run Try.prog w = .ok (.slice (some ad) j 2048) w := by
  obtain ⟨i0, hi, -⟩ := info_parts infoU8
  exact ro_slice_to w 34 5 Try.underlying34 hi ad 2048 2048 j hj
theorem by_slice {W : World} {q : Nat} {V : Win} (h : RowAt W q (byRow V)) (hV : V.length = 2048) {j : Nat} (hj : j ≤ 2048) : Sl W (.slice (some ⟨q, 0, none⟩) j 2048) ((V.take j).map byt) := by
  have hl : ((V.take j).map byt).length = j := by rw [List.length_map, List.length_take]; omega
  refine ⟨some ⟨q, 0, none⟩, 2048, by rw [hl], by rw [hl]; exact hj, by decide, fun e => (nomatch e), fun _ => ⟨q, 0, rfl, h.2.2, fun i x hx => ?_⟩⟩
  rw [Nat.zero_add]
  refine h.1 i _ ?_
  rw [List.getElem?_map] at hx
  obtain ⟨y, hy, rfl⟩ := Option.map_eq_some_iff.1 hx
  rw [List.getElem?_take] at hy
  split at hy
  · exact by_get hy
  · cases hy
theorem fillW_next {next : Int} {L : List EP} {i : Nat} {p : EP} (h : L[i]? = some p) : fillW next win0 (L.take (i + 1)) = layW (fillW next win0 (L.take i)) (diffv p.s next) p.d := by
  rw [List.take_add_one, h, Option.toList_some, fillW_append]; rfl
theorem part_at {next : Int} {L : List EP} {i : Nat} {p : EP} (hB : bufB next L = true) (h : L[i]? = some p) : ∃ o : Nat, ((0 ≤ p.s ∧ p.s < 4294967296) ∧ offv p.s next = o) ∧ (p.d.length ≤ 2048 ∧ o ≤ 2048) ∧ ∀ (k : Nat) (x : UInt8), p.d[k]? = some x → o + k < 2048 ∧ layW (fillW next win0 (L.take i)) (diffv p.s next) (p.d.take (k + 1)) = (layW (fillW next win0 (L.take i)) (diffv p.s next) (p.d.take k)).set (o + k) (some x) := by
  obtain ⟨hn, -, hok⟩ := bufB_parts hB
  have hall := okP_all hok p (List.mem_of_getElem? h)
  obtain ⟨o, ho⟩ : ∃ c : Nat, offv p.s next = c := ⟨(offv p.s next).toNat, by have := offv_bd p.s next; omega⟩
  have e : L = L.take (i + 1) ++ L.drop (i + 1) := (List.take_append_drop _ _).symm
  rw [e, okP_append, Bool.and_eq_true, List.take_add_one, h, Option.toList_some, okP_append, Bool.and_eq_true] at hok
  have hhd := okP_head hok.1.2
  refine ⟨o, ⟨hall.1, ho⟩, ⟨hall.2.2, by omega⟩, fun k x hk => ?_⟩
  obtain ⟨o2, h1, h2, -, h4⟩ := part_free hok.1.1 hok.1.2 hk
  obtain rfl : o2 = o := by omega
  exact ⟨h2, h4⟩
theorem bytes_get {w : World} {b off : Nat} {l : List UInt8} (h : Bytes w b off l) {k : Nat} {x : UInt8} (hx : l[k]? = some x) : w.cell? ⟨b, off + k, none⟩ = some (B8 x) := h k x hx
theorem ref_step {next seq : Int} {W0 : Win} {D : List UInt8} {k p : Nat} {x : UInt8} {y : Option UInt8} (hW : (layW W0 (diffv seq next) (D.take k)).length = 2048) (hp : (offv seq next + (k : Int)) % 4294967296 = p) (hk : k < 65536) (hl : p < 2048) (hx : D[k]? = some x) (hy : (layW W0 (diffv seq next) (D.take k))[p]? = some y) :
    (isS y = false → layW W0 (diffv seq next) (D.take (k + 1)) = (layW W0 (diffv seq next) (D.take k)).set p (some x)) ∧ (isS y = true → layW W0 (diffv seq next) (D.take (k + 1)) = layW W0 (diffv seq next) (D.take k)) := by
  have h1 := (ref_at next seq k hk _ hW x).1 p hp hl
  have hpl : p < (layW W0 (diffv seq next) (D.take k)).length := by omega
  have hyy : (layW W0 (diffv seq next) (D.take k))[p] = y := by rw [List.getElem?_eq_getElem hpl] at hy; injection hy
  rw [layW_take hx, h1, lay1_at hpl, hyy]
  exact ⟨fun h => by rw [h]; rfl, fun h => by rw [if_pos h]⟩
theorem ref_skip {next seq : Int} {W0 : Win} {D : List UInt8} {k p : Nat} {x : UInt8} (hW : (layW W0 (diffv seq next) (D.take k)).length = 2048) (hp : (offv seq next + (k : Int)) % 4294967296 = p) (hk : k < 65536) (hl : 2048 ≤ p) (hx : D[k]? = some x) : layW W0 (diffv seq next) (D.take (k + 1)) = layW W0 (diffv seq next) (D.take k) := by
  rw [layW_take hx]
  exact (ref_at next seq k hk _ hW x).2 (by omega)
theorem partsL_le {V : Win} {next : Int} {i : Nat} {PL : List (EP × Value)} (hPL : PL.map Prod.fst = (partsL V i).map (toP next)) (hi : i ≤ 2048) : PL.length ≤ 2048 := by
  have h := congrArg List.length hPL
  rw [List.length_map, List.length_map] at h
  have := parts_len V i; omega
theorem snocLast_mem : ∀ (l : List (Nat × List UInt8)) (x : UInt8) (q : Nat × List UInt8), q ∈ snocLast l x → ∃ p ∈ l, q.2.length ≤ p.2.length + 1
  | [], _, q, h => by simp [snocLast] at h
  | [(n, d)], x, q, h => by
    simp [snocLast] at h
    subst h
    exact ⟨(n, d), by simp, by simp⟩
  | a :: b :: r, x, q, h => by
    simp only [snocLast, List.mem_cons] at h
    rcases h with h | h
    · exact ⟨a, List.mem_cons_self .., by have := congrArg (fun z : Nat × List UInt8 => z.2.length) h; simp only at this; omega⟩
    · obtain ⟨p, hp, hl⟩ := snocLast_mem (b :: r) x q h
      exact ⟨p, List.mem_cons_of_mem _ hp, hl⟩
theorem parts_dlen (V : Win) : ∀ (i : Nat) (q : Nat × List UInt8), q ∈ partsL V i → q.2.length ≤ i
  | 0, q, h => by simp [partsL] at h
  | i + 1, q, h => by
    have ih := parts_dlen V i
    unfold partsL at h
    split at h
    · simp at h
    · split at h
      · split at h
        · obtain ⟨p, hp, hl⟩ := snocLast_mem _ _ _ h
          have := ih p hp; omega
        · rcases List.mem_append.1 h with h | h
          · have := ih q h; omega
          · simp at h; subst h; simp
      · have := ih q h; omega
theorem dlen {V : Win} {next s0 : Int} {i : Nat} {A : List EP} {d0 : List UInt8} {b : UInt8} (hi : i < 2048) (h : A ++ [⟨s0, d0 ++ [b]⟩] = (partsL V (i + 1)).map (toP next)) : d0.length ≤ 2048 := by
  have hm : (⟨s0, d0 ++ [b]⟩ : EP) ∈ (partsL V (i + 1)).map (toP next) := by rw [← h]; simp
  obtain ⟨q, hq, e⟩ := List.mem_map.1 hm
  have h1 := parts_dlen V (i + 1) q hq
  have e2 : q.2 = d0 ++ [b] := congrArg EP.d e
  rw [e2, List.length_append] at h1
  simp at h1
  omega
theorem isS_none {y : Option UInt8} (h : isS y = false) : y = none := by cases y with | none => rfl | some b => simp [isS] at h
theorem old_part {V : Win} {next : Int} {i : Nat} {b z : UInt8} {PL : List (EP × Value)} (ht : toldN V ≤ i) (hx : V[i]? = some (some b)) (h0 : i ≠ 0) (hy : V[i - 1]? = some (some z)) (hPL : PL.map Prod.fst = (partsL V i).map (toP next)) :
    ∃ A s0 d0 vd0, PL = A ++ [((⟨s0, d0⟩ : EP), vd0)] ∧ (partsL V i).map (toP next) = A.map Prod.fst ++ [⟨s0, d0⟩] ∧ (partsL V (i + 1)).map (toP next) = A.map Prod.fst ++ [⟨s0, d0 ++ [b]⟩] := by
  rcases page_step ht hx with ⟨h1 | h1, -⟩ | ⟨-, -, A', n, d, h1, h2⟩
  · exact absurd h1 h0
  · rw [hy] at h1; simp at h1
  · rw [h1, List.map_append] at hPL
    have hne : PL ≠ [] := fun e => by rw [e] at hPL; simp at hPL
    obtain ⟨A, q, rfl⟩ : ∃ A q, PL = A ++ [q] := ⟨PL.dropLast, PL.getLast hne, (List.dropLast_concat_getLast hne).symm⟩
    rw [List.map_append] at hPL
    obtain ⟨e1, e2⟩ := List.append_inj' hPL rfl
    obtain ⟨⟨s0, d0⟩, vd0⟩ := q
    have e2 : (⟨s0, d0⟩ : EP) = toP next (n, d) := by simpa using e2
    have es : s0 = addv next n := congrArg EP.s e2
    have ed : d0 = d := congrArg EP.d e2
    subst es ed
    exact ⟨A, _, _, vd0, rfl, by rw [h1, List.map_append, ← e1]; rfl, by rw [h2, List.map_append, ← e1]; rfl⟩
theorem fit_facts {V : Win} {next seq : Int} {L : List EP} {D : List UInt8} {PL : List (EP × Value)} (hVe : V = addW next L seq D) (hPL : PL.map Prod.fst = (partsL V 2048).map (toP next)) :
    (decide (8 < ((PL.length : Nat) : Int)) = true → addFits next L seq D = false) ∧ (decide (8 < ((PL.length : Nat) : Int)) = false → addFits next L seq D = true) ∧ (addFits next L seq D = true → addNext next L seq D = addv next (toldN V)) ∧ (addFits next L seq D = true → addParts next L seq D = (partsL V 2048).map (toP next)) ∧ (addFits next L seq D = true → addTold next L seq D = (V.take (toldN V)).map byt) := by
  subst hVe
  have hl := congrArg List.length hPL
  rw [List.length_map, List.length_map] at hl
  refine ⟨fun h => ?_, fun h => ?_, fun h => by unfold addNext; rw [if_pos h], fun h => by unfold addParts; rw [if_pos h]; rfl, fun h => by unfold addTold; rw [if_pos h]⟩
  · rw [decide_eq_true_eq] at h
    unfold addFits
    rw [decide_eq_false_iff_not]; omega
  · rw [decide_eq_false_iff_not] at h
    unfold addFits
    rw [decide_eq_true_eq]; omega
theorem sl_row1 {W : World} {q : Nat} {b : UInt8} (h : RowAt W q [B8 b]) : Sl W (.slice (some ⟨q, 0, none⟩) 1 1) [b] :=
  ⟨some ⟨q, 0, none⟩, 1, rfl, Nat.le_refl _, by decide, fun e => (nomatch e), fun _ => ⟨q, 0, rfl, h.2.2, fun i x hx => by
    match i, hx with
    | 0, hx => simp at hx; subst hx; exact h.1 0 _ rfl⟩⟩
theorem own_one {W : World} {B e s n : Nat} {v : Value} {xs : List Value} (h : W.ownsRow B e s v n xs) : v.oneCell' = true := by obtain ⟨_, _, rfl⟩ := own_slice h; rfl
theorem own_some {t B : Nat} {W : World} {al : Option Addr} {n cl : Nat} {A : List (EP × Value)} {q : EP × Value} (h : DOwn KPart t W B (.slice al n cl) (A ++ [q])) : ∃ g, al = some ⟨g, 0, none⟩ := by
  rcases h.row.2 with ⟨-, h2⟩ | ⟨g, cap, cur, e, -⟩
  · simp at h2
  · injection e with e; exact ⟨g, e⟩
theorem own_rowAt {W : World} {B t sz g n cap : Nat} {xs : List Value} (h : W.ownsRow B t sz (.slice (some ⟨g, 0, none⟩) n cap) n xs) : RowAt W g xs := by
  rcases h.2 with ⟨h1, -⟩ | ⟨g', cap', cur, e, -, hh, h1, h2, h3, h4⟩
  · cases h1
  · injection e with e; injection e with e; injection e with e e2
    subst e
    refine ⟨fun j v hj => ?_, fun j => ?_, ?_⟩
    · rw [← h4, List.getElem?_take] at hj
      split at hj
      · simp [World.cell?, hh]
        simpa using hj
      · cases hj
    · simp [World.frozen?, hh]
    · rcases Nat.lt_or_ge g W.heap.size with h | h
      · exact h
      · rw [Array.getElem?_eq_none h] at hh; simp at hh
theorem lastLt {t B : Nat} {W : World} {v : Value} {A : List (EP × Value)} {q : EP × Value} (h : DOwn KPart t W B v (A ++ [q])) : A.length * 2 + 1 < ((A ++ [q]).map (fun q => KPart.row q.1 q.2)).flatten.length := by
  rw [h.row.1, List.length_append, List.length_singleton]
  show A.length * 2 + 1 < (A.length + 1) * 2
  omega
theorem lastCell2 {t B : Nat} {W : World} {al : Option Addr} {g cl : Nat} {A PL : List (EP × Value)} {q : EP} {vd : Value} (hA : PL = A ++ [(q, vd)]) (hal : al = some ⟨g, 0, none⟩) (h : DOwn KPart t W B (.slice al PL.length cl) PL) : W.cell? ⟨g, A.length * 2 + 1, none⟩ = some vd := by
  subst hA hal
  exact DOwn.lastCell h
theorem idxPart0 {al : Option Addr} {g n cl i : Nat} (hal : al = some ⟨g, 0, none⟩) (hi : i < n) (w : World) : (Instr.indexAt 22 (.slice al n cl) (.int .i64 (i : Int))).run Try.prog w = .ok (.pointer (some ⟨g, i * 2, none⟩)) w := by
  subst hal
  have := idxPart g 0 n cl i hi w
  rwa [Nat.zero_add] at this
section
variable {ρ : Operand → Value} {d : Option Tmp} {ty : TypeId} {pos : String} {af : Array Edge} {g : Option (Nat × Bool)}
theorem bsPart {x : Operand} {s : Int} (w : World) (hx : ρ x = .agg #[.int .i64 s, .slice none 0 0]) : (execOp ρ ⟨d, .buildSlice 22 1 #[(0, x)], ty, pos, af, g⟩).run Try.prog w = .ok (.value (.slice (some ⟨w.heap.size, 0, none⟩) 1 1)) (w.alloc (.cells ([.int .i64 s, .slice none 0 0] : List Value).toArray 58)) := by
  simp [execOp, hx, go_sem, Instr.buildSlice]
theorem bsByte {x : Operand} {b : UInt8} (w : World) (hx : ρ x = .int .u8 (b.toNat : Int)) : (execOp ρ ⟨d, .buildSlice 34 1 #[(0, x)], ty, pos, af, g⟩).run Try.prog w = .ok (.value (.slice (some ⟨w.heap.size, 0, none⟩) 1 1)) (w.alloc (.cells ([B8 b] : List Value).toArray 5)) := by
  simp [execOp, hx, go_sem, Instr.buildSlice, B8]
end
theorem opTo_part {o : Oper} {a : Act} {w : World} (s x : Operand) (ho : o.op = .call { callee := .builtin .append, args := #[s, x], argTypes := #[22, 22] }) {base n q : Nat} {v u : Value} {sq : Int} {xs : List Value} (hs : a.eval s = v) (hown : w.ownsRow base 58 KPart.n v n xs) (hx : a.eval x = .slice (some ⟨q, 0, none⟩) 1 1) (hr : RowAt w q [.int .i64 sq, u]) (h1 : u.oneCell' = true) (hn : n ≤ 1000000) (hbase : base ≤ w.heap.size) :
    opTo Try.prog o a w fun v' w' => Grew w w' v v' ∧ w'.ownsRow base 58 KPart.n v' (n + 1) (xs ++ [.int .i64 sq, u]) := by
  obtain ⟨i0, hi, hz0, hz1, hz2⟩ := info_parts infoPart
  exact opTo_app s x 22 58 ho base i0 _ KPart.n 32 Try.underlying22 hi hz0 hz1 hz2 rfl (by decide) v n xs hs hown ⟨q, 0, none⟩ 1 1 [.int .i64 sq, u] hx rfl (fun j u' hj => by
    have e : ((⟨q, 0, none⟩ : Addr).add j) = ⟨q, j, none⟩ := by unfold Addr.add; split <;> simp_all
    rw [e]; exact hr.1 j u' hj) (fun u' hu => by
    simp only [List.mem_cons, List.not_mem_nil, or_false] at hu
    rcases hu with rfl | rfl <;> first | rfl | exact h1) (by unfold maxLen; omega) (by omega) hbase
theorem ow_retRow2 {P : Program} {fn : Func} {R : Ending → World → Prop} {a : Act} {w : World} {t t2 : Nat} {ty : TypeId} {ad : Addr} {v v2 : Value} (hr : fn.results = #[.cell t ty, .tmp t2]) (hd : a.defers = []) (hv : a.tmps[t]? = some (.pointer (some ad))) (hl : (loadVar ty ad).run P w = .ok v w) (h2 : a.tmps[t2]? = some v2) (hR : R (.returned (.tuple #[v, v2])) w) : bodyPost P fn R .ret a w :=
  bodyPost_ret (v := .tuple #[v, v2]) (by simp [results, hr, Array.getD_eq_getD_getElem?, hv, asAddr, hl, h2]) hd hR
set_option maxRecDepth 100000 in
set_option maxHeartbeats 4000000 in
theorem rreasm_any (v vd : Value) (next seq : Int) (L : List EP) (D : List UInt8) (w : World) (hv : KPart.Sl w v L) (hD : Sl w vd D) (hok : addOk next L seq D = true) :
    Calls Try.prog 22 #[.agg #[.int .i64 next, v], .int .i64 seq, vd] w fun e w' =>
      (addFits next L seq D = true ∧ ∃ v' vt PL, e = .returned (.tuple #[.agg #[.int .i64 (addNext next L seq D), v'], vt]) ∧ PL.map Prod.fst = addParts next L seq D ∧ DOwn KPart 58 w' w.heap.size v' PL ∧ w'.ownsRow w.heap.size 5 1 vt (addTold next L seq D).length ((addTold next L seq D).map B8) ∧ Apart vt v' PL ∧ Below w.heap.size w w') ∨
      (addFits next L seq D = false ∧ e = .returned (.tuple #[.agg #[.int .i64 next, v], .slice none 0 0]) ∧ Below w.heap.size w w') := by
  unfold addOk at hok
  rw [Bool.and_eq_true, Bool.and_eq_true, Bool.and_eq_true, decide_eq_true_eq, decide_eq_true_eq, decide_eq_true_eq] at hok
  obtain ⟨hB, hs0, hs1, hDl⟩ := hok
  obtain ⟨ao, cap, rfl, -, -, -, hVV⟩ := hv
  obtain ⟨ad, cd, rfl, -, -, -, hDD⟩ := hD
  have HV := Lib.hid hVV
  have HD := Lib.hid hDD
  clear hVV hDD
  obtain ⟨hn, hl8, -⟩ := bufB_parts hB
  obtain ⟨os, hos⟩ : ∃ c : Nat, offv seq next = c := ⟨(offv seq next).toNat, by have := offv_bd seq next; omega⟩
  have hob := offv_bd seq next
  have hb0 := Below.refl w.heap.size w
  refine ow_enter 167 Try.func22 rfl Try.ntmps22 (by simp) ?_
  rintro a hsz hdf hargs
  have s_0 : a.tmps[0]? = some (.agg #[.int .i64 next, .slice ao L.length cap]) := hargs 0 _ rfl
  have s_1 : a.tmps[1]? = some (.int .i64 seq) := hargs 1 _ rfl
  have s_2 : a.tmps[2]? = some (.slice ad D.length cd) := hargs 2 _ rfl
  clear hargs
  refine wp_seq ?_
  refine ow_region [_, _, _] rfl (by intro o ho; simp only [List.mem_cons, List.not_mem_nil, or_false] at ho; rcases ho with rfl | rfl | rfl <;> rfl) ?_
  obtain ⟨q1, hq1⟩ : ∃ x, x = w.heap.size := ⟨_, rfl⟩
  refine ow_run 3 (.pointer (some ⟨q1, 0, none⟩)) (w.alloc (.cells #[.int .i64 next, .slice ao L.length cap] 24)) rfl (by rw [hq1]; exact (run_boxOp (eval_of s_0) (by simp [go_sem, Instr.box]))) ?_
  have hqq1 : w.heap.size ≤ q1 := by rw [hq1]; exact hb0.size
  refine fresh (C := fun x W => wpRun _ _ x W _) (fun x X => _ = x ∧ Below w.heap.size w X ∧ RowAt X q1 [.int .i64 next, .slice ao L.length cap]) ⟨rfl, (hb0.alloc hb0.size _), (by rw [hq1]; exact rowAt_alloc _ [.int .i64 next, .slice ao L.length cap] _)⟩ ?_
  rintro _ W2 ⟨rfl, hbW2, rW2_0⟩
  clear hq1
  obtain ⟨q3, hq3⟩ : ∃ x, x = W2.heap.size := ⟨_, rfl⟩
  refine ow_run 6 (.pointer (some ⟨q3, 0, none⟩)) (W2.alloc (.cells #[.int .i64 0, .slice none 0 0] 24)) rfl (by rw [hq3]; exact (run_allocOp (by simp [go_sem, Instr.alloc]))) ?_
  have hqq3 : w.heap.size ≤ q3 := by rw [hq3]; exact hbW2.size
  have hnq3_q1 : q1 < q3 := by rw [hq3]; exact rW2_0.2.2
  refine fresh (C := fun x W => wpRun _ _ x W _) (fun x X => _ = x ∧ Below w.heap.size w X ∧ RowAt X q1 [.int .i64 next, .slice ao L.length cap] ∧ RowAt X q3 [.int .i64 0, .slice none 0 0]) ⟨rfl, (hbW2.alloc hbW2.size _), (rW2_0.below ((Below.refl _ W2).alloc (Nat.le_refl _) _)), (by rw [hq3]; exact rowAt_alloc _ [.int .i64 0, .slice none 0 0] _)⟩ ?_
  rintro _ W4 ⟨rfl, hbW4, rW4_0, rW4_1⟩
  clear hq3
  refine ow_run 7 (.slice none 0 0) _ rfl (run_assignOp (eval_cst _ _)) ?_
  refine fresh (C := fun x W => wpRun _ [] x W _) (fun x X => _ = X ∧ x.tmps.size = 167 ∧ x.defers = [] ∧ x.tmps[1]? = some (.int .i64 seq) ∧ x.tmps[2]? = some (.slice ad D.length cd) ∧ x.tmps[3]? = some (.pointer (some ⟨q1, 0, none⟩)) ∧ x.tmps[6]? = some (.pointer (some ⟨q3, 0, none⟩))) ⟨rfl, (by simp only [put_size]; exact hsz), (by simp only [put_defers]; exact hdf), (pf1 (by decide) (pf2 (by decide) s_1)), (pf1 (by decide) (pf2 (by decide) s_2)), (pf2 (by decide) (put_get _ _ _ (by rw [hsz]; decide))), (pf1 (by decide) (put_get _ _ _ (by simp only [put_size]; rw [hsz]; decide)))⟩ ?_
  clear hsz hdf s_0 s_1 s_2
  rintro a _ ⟨rfl, hsz, hdf, s_1, s_2, s_3, s_6⟩
  refine ow_then ?_
  refine wp_seq ?_
  refine ow_region [_, _] rfl (by intro o ho; simp only [List.mem_cons, List.not_mem_nil, or_false] at ho; rcases ho with rfl | rfl <;> rfl) ?_
  obtain ⟨q6, hq6⟩ : ∃ x, x = W4.heap.size := ⟨_, rfl⟩
  refine ow_run 20 (.slice (some ⟨q6, 0, none⟩) 2049 2049) (W4.alloc (.cells ((hvRow win0)).toArray 4)) rfl (by rw [hq6]; exact (mk_hv _)) ?_
  have hqq6 : w.heap.size ≤ q6 := by rw [hq6]; exact hbW4.size
  have hnq6_q1 : q1 < q6 := by rw [hq6]; exact rW4_0.2.2
  have hnq6_q3 : q3 < q6 := by rw [hq6]; exact rW4_1.2.2
  refine fresh (C := fun x W => wpRun _ _ x W _) (fun x X => _ = x ∧ Below w.heap.size w X ∧ RowAt X q1 [.int .i64 next, .slice ao L.length cap] ∧ RowAt X q3 [.int .i64 0, .slice none 0 0] ∧ RowAt X q6 (hvRow win0)) ⟨rfl, (hbW4.alloc hbW4.size _), (rW4_0.below ((Below.refl _ W4).alloc (Nat.le_refl _) _)), (rW4_1.below ((Below.refl _ W4).alloc (Nat.le_refl _) _)), (by rw [hq6]; exact rowAt_alloc _ ((hvRow win0)) _)⟩ ?_
  rintro _ W7 ⟨rfl, hbW7, rW7_0, rW7_1, rW7_2⟩
  clear hq6
  refine ow_run 8 (.slice (some ⟨q6, 0, none⟩) 2049 2049) _ rfl (run_assignOp (eval_of (put_get _ _ _ (by rw [hsz]; decide)))) ?_
  refine fresh (C := fun x W => wpRun _ [] x W _) (fun x X => _ = X ∧ x.tmps.size = 167 ∧ x.defers = [] ∧ x.tmps[1]? = some (.int .i64 seq) ∧ x.tmps[2]? = some (.slice ad D.length cd) ∧ x.tmps[3]? = some (.pointer (some ⟨q1, 0, none⟩)) ∧ x.tmps[6]? = some (.pointer (some ⟨q3, 0, none⟩)) ∧ x.tmps[8]? = some (.slice (some ⟨q6, 0, none⟩) 2049 2049)) ⟨rfl, (by simp only [put_size]; exact hsz), (by simp only [put_defers]; exact hdf), (pf2 (by decide) s_1), (pf2 (by decide) s_2), (pf2 (by decide) s_3), (pf2 (by decide) s_6), (put_get _ _ _ (by simp only [put_size]; rw [hsz]; decide))⟩ ?_
  clear hsz hdf s_1 s_2 s_3 s_6
  rintro a _ ⟨rfl, hsz, hdf, s_1, s_2, s_3, s_6, s_8⟩
  refine ow_then ?_
  refine wp_seq ?_
  refine ow_region [_, _] rfl (by intro o ho; simp only [List.mem_cons, List.not_mem_nil, or_false] at ho; rcases ho with rfl | rfl <;> rfl) ?_
  obtain ⟨q9, hq9⟩ : ∃ x, x = W7.heap.size := ⟨_, rfl⟩
  refine ow_run 21 (.slice (some ⟨q9, 0, none⟩) 2048 2048) (W7.alloc (.cells ((byRow win0)).toArray 5)) rfl (by rw [hq9]; exact (mk_by _)) ?_
  have hqq9 : w.heap.size ≤ q9 := by rw [hq9]; exact hbW7.size
  have hnq9_q1 : q1 < q9 := by rw [hq9]; exact rW7_0.2.2
  have hnq9_q3 : q3 < q9 := by rw [hq9]; exact rW7_1.2.2
  have hnq9_q6 : q6 < q9 := by rw [hq9]; exact rW7_2.2.2
  refine fresh (C := fun x W => wpRun _ _ x W _) (fun x X => _ = x ∧ Below w.heap.size w X ∧ RowAt X q1 [.int .i64 next, .slice ao L.length cap] ∧ RowAt X q3 [.int .i64 0, .slice none 0 0] ∧ RowAt X q6 (hvRow win0) ∧ RowAt X q9 (byRow win0)) ⟨rfl, (hbW7.alloc hbW7.size _), (rW7_0.below ((Below.refl _ W7).alloc (Nat.le_refl _) _)), (rW7_1.below ((Below.refl _ W7).alloc (Nat.le_refl _) _)), (rW7_2.below ((Below.refl _ W7).alloc (Nat.le_refl _) _)), (by rw [hq9]; exact rowAt_alloc _ ((byRow win0)) _)⟩ ?_
  rintro _ W10 ⟨rfl, hbW10, rW10_0, rW10_1, rW10_2, rW10_3⟩
  clear hq9
  refine ow_run 9 (.slice (some ⟨q9, 0, none⟩) 2048 2048) _ rfl (run_assignOp (eval_of (put_get _ _ _ (by rw [hsz]; decide)))) ?_
  refine fresh (C := fun x W => wpRun _ [] x W _) (fun x X => _ = X ∧ x.tmps.size = 167 ∧ x.defers = [] ∧ x.tmps[1]? = some (.int .i64 seq) ∧ x.tmps[2]? = some (.slice ad D.length cd) ∧ x.tmps[3]? = some (.pointer (some ⟨q1, 0, none⟩)) ∧ x.tmps[6]? = some (.pointer (some ⟨q3, 0, none⟩)) ∧ x.tmps[8]? = some (.slice (some ⟨q6, 0, none⟩) 2049 2049) ∧ x.tmps[9]? = some (.slice (some ⟨q9, 0, none⟩) 2048 2048)) ⟨rfl, (by simp only [put_size]; exact hsz), (by simp only [put_defers]; exact hdf), (pf2 (by decide) s_1), (pf2 (by decide) s_2), (pf2 (by decide) s_3), (pf2 (by decide) s_6), (pf2 (by decide) s_8), (put_get _ _ _ (by simp only [put_size]; rw [hsz]; decide))⟩ ?_
  clear hsz hdf s_1 s_2 s_3 s_6 s_8
  rintro a _ ⟨rfl, hsz, hdf, s_1, s_2, s_3, s_6, s_8, s_9⟩
  refine ow_then ?_
  refine wp_seq ?_
  refine wp_seq ?_
  refine ow_region [_] rfl (by intro o ho; simp only [List.mem_cons, List.not_mem_nil, or_false] at ho; subst ho; rfl) ?_
  refine ow_run 10 (.int .i64 0) _ rfl (run_assignOp (eval_cst _ _)) ?_
  refine fresh (C := fun x W => wpRun _ [] x W _) (fun x X => _ = X ∧ x.tmps.size = 167 ∧ x.defers = [] ∧ x.tmps[1]? = some (.int .i64 seq) ∧ x.tmps[2]? = some (.slice ad D.length cd) ∧ x.tmps[3]? = some (.pointer (some ⟨q1, 0, none⟩)) ∧ x.tmps[6]? = some (.pointer (some ⟨q3, 0, none⟩)) ∧ x.tmps[8]? = some (.slice (some ⟨q6, 0, none⟩) 2049 2049) ∧ x.tmps[9]? = some (.slice (some ⟨q9, 0, none⟩) 2048 2048) ∧ x.tmps[10]? = some (.int .i64 0)) ⟨rfl, (by simp only [put_size]; exact hsz), (by simp only [put_defers]; exact hdf), (pf1 (by decide) s_1), (pf1 (by decide) s_2), (pf1 (by decide) s_3), (pf1 (by decide) s_6), (pf1 (by decide) s_8), (pf1 (by decide) s_9), (put_get _ _ _ (by rw [hsz]; decide))⟩ ?_
  clear hsz hdf s_1 s_2 s_3 s_6 s_8 s_9
  rintro a _ ⟨rfl, hsz, hdf, s_1, s_2, s_3, s_6, s_8, s_9, s_10⟩
  refine ow_then ?_
  refine wp_block ?_
  refine ow_loop (fun N a W => ∃ (i : Nat), N = L.length - i ∧ i ≤ L.length ∧ a.tmps.size = 167 ∧ a.defers = [] ∧ a.tmps[1]? = some (.int .i64 seq) ∧ a.tmps[2]? = some (.slice ad D.length cd) ∧ a.tmps[3]? = some (.pointer (some ⟨q1, 0, none⟩)) ∧ a.tmps[6]? = some (.pointer (some ⟨q3, 0, none⟩)) ∧ a.tmps[8]? = some (.slice (some ⟨q6, 0, none⟩) 2049 2049) ∧ a.tmps[9]? = some (.slice (some ⟨q9, 0, none⟩) 2048 2048) ∧ a.tmps[10]? = some (.int .i64 ((i : Nat) : Int)) ∧ Below w.heap.size w W ∧ RowAt W q1 [.int .i64 next, .slice ao L.length cap] ∧ RowAt W q3 [.int .i64 0, .slice none 0 0] ∧ RowAt W q6 (hvRow (fillW next win0 (L.take i))) ∧ RowAt W q9 (byRow (fillW next win0 (L.take i)))) _ ⟨0, rfl, Nat.zero_le _, hsz, hdf, s_1, s_2, s_3, s_6, s_8, s_9, (by first | exact s_10 | (rw [s_10]; congr 2; first | rfl | omega | (push_cast; omega)) | (rw [s_10]; first | rfl | (simp; try omega))), hbW10, rW10_0, rW10_1, rW10_2, rW10_3⟩ ?_
  clear hsz hdf s_1 s_2 s_3 s_6 s_8 s_9 s_10
  rintro N a W13 ⟨i, rfl, hil, hsz, hdf, s_1, s_2, s_3, s_6, s_8, s_9, s_10, hbW13, rW13_0, rW13_1, rW13_2, rW13_3⟩
  intro K15 hK15
  refine wp_seq ?_
  refine wp_seq ?_
  refine ow_region [_, _, _, _, _] rfl (by intro o ho; simp only [List.mem_cons, List.not_mem_nil, or_false] at ho; rcases ho with rfl | rfl | rfl | rfl | rfl <;> rfl) ?_
  refine ow_run 22 (.int .i64 ((i : Nat) : Int)) _ rfl (run_moveOp (eval_of s_10)) ?_
  refine ow_run 23 (.pointer (some ⟨q1, 1, none⟩)) _ rfl (run_fieldAddr (eval_of (pf1 (by decide) s_3)) (by simp [go_sem, Instr.fieldAt])) ?_
  refine ow_run 24 (.slice ao L.length cap) _ rfl (run_loadOp (eval_of (put_get _ _ _ (by simp only [put_size]; rw [hsz]; decide))) (by simp [go_sem, Instr.loadAt, rW13_0.cell (j := 1) rfl])) ?_
  refine ow_run 25 (.int .i64 ((L.length : Nat) : Int)) _ rfl (run_lenOp Try.underlying22 (eval_of (put_get _ _ _ (by simp only [put_size]; rw [hsz]; decide)))) ?_
  refine ow_run 26 (.bool (decide (((i : Nat) : Int) < ((L.length : Nat) : Int)))) _ rfl (run_binOp (eval_of (pf1 (by decide) (pf2 (by decide) (put_get _ _ _ (by rw [hsz]; decide))))) (eval_of (put_get _ _ _ (by simp only [put_size]; rw [hsz]; decide))) (by simp [go_sem]) (lssIw _ _ _)) ?_
  refine fresh (C := fun x W => wpRun _ [] x W _) (fun x X => _ = X ∧ x.tmps.size = 167 ∧ x.defers = [] ∧ x.tmps[1]? = some (.int .i64 seq) ∧ x.tmps[2]? = some (.slice ad D.length cd) ∧ x.tmps[3]? = some (.pointer (some ⟨q1, 0, none⟩)) ∧ x.tmps[6]? = some (.pointer (some ⟨q3, 0, none⟩)) ∧ x.tmps[8]? = some (.slice (some ⟨q6, 0, none⟩) 2049 2049) ∧ x.tmps[9]? = some (.slice (some ⟨q9, 0, none⟩) 2048 2048) ∧ x.tmps[10]? = some (.int .i64 ((i : Nat) : Int)) ∧ x.tmps[26]? = some (.bool (decide (((i : Nat) : Int) < ((L.length : Nat) : Int))))) ⟨rfl, (by simp only [put_size]; exact hsz), (by simp only [put_defers]; exact hdf), (pf1 (by decide) (pf4 (by decide) s_1)), (pf1 (by decide) (pf4 (by decide) s_2)), (pf1 (by decide) (pf4 (by decide) s_3)), (pf1 (by decide) (pf4 (by decide) s_6)), (pf1 (by decide) (pf4 (by decide) s_8)), (pf1 (by decide) (pf4 (by decide) s_9)), (pf1 (by decide) (pf4 (by decide) s_10)), (put_get _ _ _ (by simp only [put_size]; rw [hsz]; decide))⟩ ?_
  clear hsz hdf s_1 s_2 s_3 s_6 s_8 s_9 s_10
  rintro a _ ⟨rfl, hsz, hdf, s_1, s_2, s_3, s_6, s_8, s_9, s_10, s_26⟩
  refine ow_then ?_
  rcases Bool.eq_false_or_eq_true ((decide (((i : Nat) : Int) < ((L.length : Nat) : Int)))) with hb_17 | hb_17
  · skip
    refine ow_true (eval_of (flag_of s_26 hb_17)) ?_
    refine wp_skip ?_
    refine ow_then ?_
    refine wp_seq ?_
    refine wp_block ?_
    refine wp_seq ?_
    have hiP : i < L.length := by have h := hb_17; rw [decide_eq_true_eq] at h; omega
    obtain ⟨pi, hpi⟩ : ∃ p, L[i]? = some p := ⟨_, List.getElem?_eq_getElem hiP⟩
    obtain ⟨bP, oP, haP, hbP, hcP⟩ := HV.out (fun e => by rw [e] at hiP; simp at hiP)
    obtain ⟨vi, hsi, hci⟩ := hcP i pi hpi
    obtain ⟨ai, ci, rfl, -, -, -, hXi⟩ := id hsi
    have hcP0 := hci 0 _ rfl
    have hcP1 := hci 1 _ rfl
    simp only [KPart, Nat.add_zero, Nat.add_assoc] at hcP0 hcP1
    obtain ⟨oi, hoi, hdl2, hpfree⟩ := part_at hB hpi
    refine ah_region (fun W => Below w.heap.size w W ∧ RowAt W q1 [.int .i64 next, .slice ao L.length cap] ∧ RowAt W q3 [.int .i64 0, .slice none 0 0] ∧ RowAt W q6 (hvRow (fillW next win0 (L.take i))) ∧ RowAt W q9 (byRow (fillW next win0 (L.take i)))) (by kernel_rfl) 10 rfl ?_
    refine fresh (C := fun x W => AH _ _ _ _ _ _ x W) (fun x X => _ = x ∧ Below w.heap.size w X ∧ RowAt X q1 [.int .i64 next, .slice ao L.length cap] ∧ RowAt X q3 [.int .i64 0, .slice none 0 0] ∧ RowAt X q6 (hvRow (fillW next win0 (L.take i))) ∧ RowAt X q9 (byRow (fillW next win0 (L.take i)))) ⟨rfl, (hbW13.trans (((Below.refl _ W13).drew).mono hbW13.size)), (rW13_0.below ((Below.refl _ W13).drew)), (rW13_1.below ((Below.refl _ W13).drew)), (rW13_2.below ((Below.refl _ W13).drew)), (rW13_3.below ((Below.refl _ W13).drew))⟩ ?_
    rintro _ W18 ⟨rfl, hbW18, rW18_0, rW18_1, rW18_2, rW18_3⟩
    refine ah_takeW 0 29 (.pointer (some ⟨q1, 1, none⟩)) rfl (wanted_none rfl) rfl (by kernel_rfl) (by kernel_rfl) (by kernel_rfl) (fun _ _ _ h => h) ⟨hbW18, rW18_0, rW18_1, rW18_2, rW18_3⟩ (fun W hW => by (try obtain ⟨hbW18, rW18_0, rW18_1, rW18_2, rW18_3⟩ := hW); exact (run_fieldAddr (eval_of s_3) (by simp [go_sem, Instr.fieldAt]))) ?_
    refine ah_takeW 1 30 (.slice ao L.length cap) rfl (wanted_none rfl) rfl (by kernel_rfl) (by kernel_rfl) (by kernel_rfl) (fun _ _ _ h => h) ⟨hbW18, rW18_0, rW18_1, rW18_2, rW18_3⟩ (fun W hW => by (try obtain ⟨hbW18, rW18_0, rW18_1, rW18_2, rW18_3⟩ := hW); exact (run_loadOp (eval_of (put_get _ _ _ (by rw [hsz]; decide))) (by simp [go_sem, Instr.loadAt, rW18_0.cell (j := 1) rfl]))) ?_
    refine ah_takeW 2 31 (.int .i64 ((i : Nat) : Int)) rfl (wanted_none rfl) rfl (by kernel_rfl) (by kernel_rfl) (by kernel_rfl) (fun _ _ _ h => h) ⟨hbW18, rW18_0, rW18_1, rW18_2, rW18_3⟩ (fun W hW => by (try obtain ⟨hbW18, rW18_0, rW18_1, rW18_2, rW18_3⟩ := hW); exact (run_moveOp (eval_of (pf2 (by decide) s_10)))) ?_
    refine ah_takeW 3 32 (.pointer (some ⟨bP, (oP + i * 2), none⟩)) rfl (wanted_none rfl) rfl (by kernel_rfl) (by kernel_rfl) (by kernel_rfl) (fun _ _ _ h => h) ⟨hbW18, rW18_0, rW18_1, rW18_2, rW18_3⟩ (fun W hW => by (try obtain ⟨hbW18, rW18_0, rW18_1, rW18_2, rW18_3⟩ := hW); exact (run_indexOp (eval_of (pf1 (by decide) (put_get _ _ _ (by simp only [put_size]; rw [hsz]; decide)))) (eval_of (put_get _ _ _ (by simp only [put_size]; rw [hsz]; decide))) (by rw [haP]; exact idxPart _ _ _ _ _ hiP _))) ?_
    refine ah_takeW 4 33 (.pointer (some ⟨bP, (oP + i * 2), none⟩)) rfl (wanted_none rfl) rfl (by kernel_rfl) (by kernel_rfl) (by kernel_rfl) (fun _ _ _ h => h) ⟨hbW18, rW18_0, rW18_1, rW18_2, rW18_3⟩ (fun W hW => by (try obtain ⟨hbW18, rW18_0, rW18_1, rW18_2, rW18_3⟩ := hW); exact (run_fieldAddr (eval_of (put_get _ _ _ (by simp only [put_size]; rw [hsz]; decide))) (by simp [go_sem, Instr.fieldAt]))) ?_
    refine ah_takeW 5 34 (.int .i64 pi.s) rfl (wanted_none rfl) rfl (by kernel_rfl) (by kernel_rfl) (by kernel_rfl) (fun _ _ _ h => h) ⟨hbW18, rW18_0, rW18_1, rW18_2, rW18_3⟩ (fun W hW => by (try obtain ⟨hbW18, rW18_0, rW18_1, rW18_2, rW18_3⟩ := hW); exact (run_loadOp (eval_of (put_get _ _ _ (by simp only [put_size]; rw [hsz]; decide))) (by simp [go_sem, Instr.loadAt, (Below.cell hbW18 (p := ⟨bP, oP + i * 2, none⟩) hbP).trans hcP0]))) ?_
    refine ah_takeW 6 35 (.pointer (some ⟨q1, 0, none⟩)) rfl (wanted_none rfl) rfl (by kernel_rfl) (by kernel_rfl) (by kernel_rfl) (fun _ _ _ h => h) ⟨hbW18, rW18_0, rW18_1, rW18_2, rW18_3⟩ (fun W hW => by (try obtain ⟨hbW18, rW18_0, rW18_1, rW18_2, rW18_3⟩ := hW); exact (run_fieldAddr (eval_of (pf2 (by decide) (pf4 (by decide) s_3))) (by simp [go_sem, Instr.fieldAt]))) ?_
    refine ah_takeW 7 36 (.int .i64 next) rfl (wanted_none rfl) rfl (by kernel_rfl) (by kernel_rfl) (by kernel_rfl) (fun _ _ _ h => h) ⟨hbW18, rW18_0, rW18_1, rW18_2, rW18_3⟩ (fun W hW => by (try obtain ⟨hbW18, rW18_0, rW18_1, rW18_2, rW18_3⟩ := hW); exact (run_loadOp (eval_of (put_get _ _ _ (by simp only [put_size]; rw [hsz]; decide))) (by simp [go_sem, Instr.loadAt, rW18_0.cell (j := 0) rfl]))) ?_
    refine ah_one 8 (by kernel_rfl) ?_
    refine ao_call rfl (wanted_none rfl) 37 (fun v X => v = (.int .i64 ((oi : Nat) : Int)) ∧ W18 = X) rfl _ _ (run_callOp Try.func46 rfl rfl (arr2 (eval_of (pf2 (by decide) (put_get _ _ _ (by simp only [put_size]; rw [hsz]; decide)))) (eval_of (put_get _ _ _ (by simp only [put_size]; rw [hsz]; decide))))) (((off_at hoi.1 hn hoi.2 W18)).mono fun e X h => ⟨_, h.1, rfl, h.2⟩) ?_
    rintro _ _ ⟨rfl, rfl⟩
    refine ⟨⟨hbW18, rW18_0, rW18_1, rW18_2, rW18_3⟩, ?_⟩
    refine ah_takeW 9 11 (.int .i64 ((oi : Nat) : Int)) rfl (wanted_none rfl) rfl (by kernel_rfl) (by kernel_rfl) (by kernel_rfl) (fun _ _ _ h => h) ⟨hbW18, rW18_0, rW18_1, rW18_2, rW18_3⟩ (fun W hW => by (try obtain ⟨hbW18, rW18_0, rW18_1, rW18_2, rW18_3⟩ := hW); exact (run_assignOp (eval_of (put_get _ _ _ (by simp only [put_size]; rw [hsz]; decide))))) ?_
    refine fresh (C := fun x W => AH _ _ _ _ _ _ x W) (fun x X => _ = X ∧ x.tmps.size = 167 ∧ x.defers = [] ∧ x.tmps[1]? = some (.int .i64 seq) ∧ x.tmps[2]? = some (.slice ad D.length cd) ∧ x.tmps[3]? = some (.pointer (some ⟨q1, 0, none⟩)) ∧ x.tmps[6]? = some (.pointer (some ⟨q3, 0, none⟩)) ∧ x.tmps[8]? = some (.slice (some ⟨q6, 0, none⟩) 2049 2049) ∧ x.tmps[9]? = some (.slice (some ⟨q9, 0, none⟩) 2048 2048) ∧ x.tmps[10]? = some (.int .i64 ((i : Nat) : Int)) ∧ x.tmps[11]? = some (.int .i64 ((oi : Nat) : Int))) ⟨rfl, (by simp only [put_size]; exact hsz), (by simp only [put_defers]; exact hdf), (pf2 (by decide) (pf8 (by decide) s_1)), (pf2 (by decide) (pf8 (by decide) s_2)), (pf2 (by decide) (pf8 (by decide) s_3)), (pf2 (by decide) (pf8 (by decide) s_6)), (pf2 (by decide) (pf8 (by decide) s_8)), (pf2 (by decide) (pf8 (by decide) s_9)), (pf2 (by decide) (pf8 (by decide) s_10)), (put_get _ _ _ (by simp only [put_size]; rw [hsz]; decide))⟩ ?_
    clear hsz hdf s_1 s_2 s_3 s_6 s_8 s_9 s_10 s_26
    rintro a _ ⟨rfl, hsz, hdf, s_1, s_2, s_3, s_6, s_8, s_9, s_10, s_11⟩
    refine ah_done (by kernel_rfl) ?_
    refine ow_then ?_
    refine wp_seq ?_
    refine ow_region [_] rfl (by intro o ho; simp only [List.mem_cons, List.not_mem_nil, or_false] at ho; subst ho; rfl) ?_
    refine ow_run 12 (.int .i64 0) _ rfl (run_assignOp (eval_cst _ _)) ?_
    refine fresh (C := fun x W => wpRun _ [] x W _) (fun x X => _ = X ∧ x.tmps.size = 167 ∧ x.defers = [] ∧ x.tmps[1]? = some (.int .i64 seq) ∧ x.tmps[2]? = some (.slice ad D.length cd) ∧ x.tmps[3]? = some (.pointer (some ⟨q1, 0, none⟩)) ∧ x.tmps[6]? = some (.pointer (some ⟨q3, 0, none⟩)) ∧ x.tmps[8]? = some (.slice (some ⟨q6, 0, none⟩) 2049 2049) ∧ x.tmps[9]? = some (.slice (some ⟨q9, 0, none⟩) 2048 2048) ∧ x.tmps[10]? = some (.int .i64 ((i : Nat) : Int)) ∧ x.tmps[11]? = some (.int .i64 ((oi : Nat) : Int)) ∧ x.tmps[12]? = some (.int .i64 0)) ⟨rfl, (by simp only [put_size]; exact hsz), (by simp only [put_defers]; exact hdf), (pf1 (by decide) s_1), (pf1 (by decide) s_2), (pf1 (by decide) s_3), (pf1 (by decide) s_6), (pf1 (by decide) s_8), (pf1 (by decide) s_9), (pf1 (by decide) s_10), (pf1 (by decide) s_11), (put_get _ _ _ (by rw [hsz]; decide))⟩ ?_
    clear hsz hdf s_1 s_2 s_3 s_6 s_8 s_9 s_10 s_11
    rintro a _ ⟨rfl, hsz, hdf, s_1, s_2, s_3, s_6, s_8, s_9, s_10, s_11, s_12⟩
    refine ow_then ?_
    refine wp_block ?_
    refine ow_loop (fun N a W => ∃ (k : Nat), N = pi.d.length - k ∧ k ≤ pi.d.length ∧ a.tmps.size = 167 ∧ a.defers = [] ∧ a.tmps[1]? = some (.int .i64 seq) ∧ a.tmps[2]? = some (.slice ad D.length cd) ∧ a.tmps[3]? = some (.pointer (some ⟨q1, 0, none⟩)) ∧ a.tmps[6]? = some (.pointer (some ⟨q3, 0, none⟩)) ∧ a.tmps[8]? = some (.slice (some ⟨q6, 0, none⟩) 2049 2049) ∧ a.tmps[9]? = some (.slice (some ⟨q9, 0, none⟩) 2048 2048) ∧ a.tmps[10]? = some (.int .i64 ((i : Nat) : Int)) ∧ a.tmps[11]? = some (.int .i64 ((oi : Nat) : Int)) ∧ a.tmps[12]? = some (.int .i64 ((k : Nat) : Int)) ∧ Below w.heap.size w W ∧ RowAt W q1 [.int .i64 next, .slice ao L.length cap] ∧ RowAt W q3 [.int .i64 0, .slice none 0 0] ∧ RowAt W q6 (hvRow (layW (fillW next win0 (L.take i)) (diffv pi.s next) (pi.d.take k))) ∧ RowAt W q9 (byRow (layW (fillW next win0 (L.take i)) (diffv pi.s next) (pi.d.take k)))) _ ⟨0, rfl, Nat.zero_le _, hsz, hdf, s_1, s_2, s_3, s_6, s_8, s_9, s_10, s_11, (by first | exact s_12 | (rw [s_12]; congr 2; first | rfl | omega | (push_cast; omega)) | (rw [s_12]; first | rfl | (simp; try omega))), hbW18, rW18_0, rW18_1, rW18_2, rW18_3⟩ ?_
    clear hsz hdf s_1 s_2 s_3 s_6 s_8 s_9 s_10 s_11 s_12
    rintro N a W21 ⟨k, rfl, hkl, hsz, hdf, s_1, s_2, s_3, s_6, s_8, s_9, s_10, s_11, s_12, hbW21, rW21_0, rW21_1, rW21_2, rW21_3⟩
    intro K23 hK23
    refine wp_seq ?_
    refine wp_seq ?_
    refine ow_region [_, _, _, _, _, _, _, _, _] rfl (by intro o ho; simp only [List.mem_cons, List.not_mem_nil, or_false] at ho; rcases ho with rfl | rfl | rfl | rfl | rfl | rfl | rfl | rfl | rfl <;> rfl) ?_
    refine ow_run 38 (.int .i64 ((k : Nat) : Int)) _ rfl (run_moveOp (eval_of s_12)) ?_
    refine ow_run 39 (.pointer (some ⟨q1, 1, none⟩)) _ rfl (run_fieldAddr (eval_of (pf1 (by decide) s_3)) (by simp [go_sem, Instr.fieldAt])) ?_
    refine ow_run 40 (.slice ao L.length cap) _ rfl (run_loadOp (eval_of (put_get _ _ _ (by simp only [put_size]; rw [hsz]; decide))) (by simp [go_sem, Instr.loadAt, rW21_0.cell (j := 1) rfl])) ?_
    refine ow_run 41 (.int .i64 ((i : Nat) : Int)) _ rfl (run_moveOp (eval_of (pf1 (by decide) (pf2 (by decide) s_10)))) ?_
    refine ow_run 42 (.pointer (some ⟨bP, (oP + i * 2), none⟩)) _ rfl (run_indexOp (eval_of (pf1 (by decide) (put_get _ _ _ (by simp only [put_size]; rw [hsz]; decide)))) (eval_of (put_get _ _ _ (by simp only [put_size]; rw [hsz]; decide))) (by rw [haP]; exact idxPart _ _ _ _ _ hiP _)) ?_
    refine ow_run 43 (.pointer (some ⟨bP, ((oP + i * 2) + 1), none⟩)) _ rfl (run_fieldAddr (eval_of (put_get _ _ _ (by simp only [put_size]; rw [hsz]; decide))) (by simp [go_sem, Instr.fieldAt])) ?_
    refine ow_run 44 (.slice ai pi.d.length ci) _ rfl (run_loadOp (eval_of (put_get _ _ _ (by simp only [put_size]; rw [hsz]; decide))) (by simp [go_sem, Instr.loadAt, (Below.cell hbW21 (p := ⟨bP, oP + i * 2 + 1, none⟩) hbP).trans hcP1])) ?_
    refine ow_run 45 (.int .i64 ((pi.d.length : Nat) : Int)) _ rfl (run_lenOp Try.underlying34 (eval_of (put_get _ _ _ (by simp only [put_size]; rw [hsz]; decide)))) ?_
    refine ow_run 46 (.bool (decide (((k : Nat) : Int) < ((pi.d.length : Nat) : Int)))) _ rfl (run_binOp (eval_of (pf1 (by decide) (pf2 (by decide) (pf4 (by decide) (put_get _ _ _ (by rw [hsz]; decide)))))) (eval_of (put_get _ _ _ (by simp only [put_size]; rw [hsz]; decide))) (by simp [go_sem]) (lssIw _ _ _)) ?_
    refine fresh (C := fun x W => wpRun _ [] x W _) (fun x X => _ = X ∧ x.tmps.size = 167 ∧ x.defers = [] ∧ x.tmps[1]? = some (.int .i64 seq) ∧ x.tmps[2]? = some (.slice ad D.length cd) ∧ x.tmps[3]? = some (.pointer (some ⟨q1, 0, none⟩)) ∧ x.tmps[6]? = some (.pointer (some ⟨q3, 0, none⟩)) ∧ x.tmps[8]? = some (.slice (some ⟨q6, 0, none⟩) 2049 2049) ∧ x.tmps[9]? = some (.slice (some ⟨q9, 0, none⟩) 2048 2048) ∧ x.tmps[10]? = some (.int .i64 ((i : Nat) : Int)) ∧ x.tmps[11]? = some (.int .i64 ((oi : Nat) : Int)) ∧ x.tmps[12]? = some (.int .i64 ((k : Nat) : Int)) ∧ x.tmps[46]? = some (.bool (decide (((k : Nat) : Int) < ((pi.d.length : Nat) : Int))))) ⟨rfl, (by simp only [put_size]; exact hsz), (by simp only [put_defers]; exact hdf), (pf1 (by decide) (pf8 (by decide) s_1)), (pf1 (by decide) (pf8 (by decide) s_2)), (pf1 (by decide) (pf8 (by decide) s_3)), (pf1 (by decide) (pf8 (by decide) s_6)), (pf1 (by decide) (pf8 (by decide) s_8)), (pf1 (by decide) (pf8 (by decide) s_9)), (pf1 (by decide) (pf8 (by decide) s_10)), (pf1 (by decide) (pf8 (by decide) s_11)), (pf1 (by decide) (pf8 (by decide) s_12)), (put_get _ _ _ (by simp only [put_size]; rw [hsz]; decide))⟩ ?_
    clear hsz hdf s_1 s_2 s_3 s_6 s_8 s_9 s_10 s_11 s_12
    rintro a _ ⟨rfl, hsz, hdf, s_1, s_2, s_3, s_6, s_8, s_9, s_10, s_11, s_12, s_46⟩
    refine ow_then ?_
    rcases Bool.eq_false_or_eq_true ((decide (((k : Nat) : Int) < ((pi.d.length : Nat) : Int)))) with hb_25 | hb_25
    · skip
      refine ow_true (eval_of (flag_of s_46 hb_25)) ?_
      refine wp_skip ?_
      refine ow_then ?_
      refine wp_seq ?_
      refine wp_block ?_
      have hkX : k < pi.d.length := by have h := hb_25; rw [decide_eq_true_eq] at h; omega
      obtain ⟨xb, hx⟩ : ∃ x, pi.d[k]? = some x := ⟨_, List.getElem?_eq_getElem hkX⟩
      obtain ⟨bX, oX, haX, hbX, hcXs⟩ := hXi (fun e => by rw [show pi.d = [] from e] at hkX; simp at hkX)
      have hcX := bytes_get hcXs hx
      obtain ⟨hlt1, hpf⟩ := hpfree k xb hx
      have hVl : (layW (fillW next win0 (L.take i)) (diffv pi.s next) (pi.d.take k)).length = 2048 := by rw [layW_len, fillW_len, win0_len]
      refine ow_region [_, _, _, _, _, _, _, _, _, _, _, _, _, _, _, _, _, _, _, _, _] rfl (by intro o ho; simp only [List.mem_cons, List.not_mem_nil, or_false] at ho; rcases ho with rfl | rfl | rfl | rfl | rfl | rfl | rfl | rfl | rfl | rfl | rfl | rfl | rfl | rfl | rfl | rfl | rfl | rfl | rfl | rfl | rfl <;> rfl) ?_
      refine ow_run 49 (.slice (some ⟨q6, 0, none⟩) 2049 2049) _ rfl (run_moveOp (eval_of s_8)) ?_
      refine ow_run 50 (.int .i64 ((oi : Nat) : Int)) _ rfl (run_moveOp (eval_of (pf1 (by decide) s_11))) ?_
      refine ow_run 51 (.int .i64 ((k : Nat) : Int)) _ rfl (run_moveOp (eval_of (pf2 (by decide) s_12))) ?_
      refine ow_run 52 (.int .i64 (((oi + k) : Nat) : Int)) _ rfl (run_binOp (eval_of (pf1 (by decide) (put_get _ _ _ (by simp only [put_size]; rw [hsz]; decide)))) (eval_of (put_get _ _ _ (by simp only [put_size]; rw [hsz]; decide))) (by simp [go_sem]) (addIw _ _ _ _ (by omega) (by omega) (by omega))) ?_
      refine ow_run 53 (.slice (some ⟨q9, 0, none⟩) 2048 2048) _ rfl (run_moveOp (eval_of (pf4 (by decide) s_9))) ?_
      refine ow_run 54 (.int .i64 ((oi : Nat) : Int)) _ rfl (run_moveOp (eval_of (pf1 (by decide) (pf4 (by decide) s_11)))) ?_
      refine ow_run 55 (.int .i64 ((k : Nat) : Int)) _ rfl (run_moveOp (eval_of (pf2 (by decide) (pf4 (by decide) s_12)))) ?_
      refine ow_run 56 (.int .i64 (((oi + k) : Nat) : Int)) _ rfl (run_binOp (eval_of (pf1 (by decide) (put_get _ _ _ (by simp only [put_size]; rw [hsz]; decide)))) (eval_of (put_get _ _ _ (by simp only [put_size]; rw [hsz]; decide))) (by simp [go_sem]) (addIw _ _ _ _ (by omega) (by omega) (by omega))) ?_
      refine ow_run 57 (.pointer (some ⟨q1, 1, none⟩)) _ rfl (run_fieldAddr (eval_of (pf8 (by decide) s_3)) (by simp [go_sem, Instr.fieldAt])) ?_
      refine ow_run 58 (.slice ao L.length cap) _ rfl (run_loadOp (eval_of (put_get _ _ _ (by simp only [put_size]; rw [hsz]; decide))) (by simp [go_sem, Instr.loadAt, rW21_0.cell (j := 1) rfl])) ?_
      refine ow_run 59 (.int .i64 ((i : Nat) : Int)) _ rfl (run_moveOp (eval_of (pf2 (by decide) (pf8 (by decide) s_10)))) ?_
      refine ow_run 60 (.pointer (some ⟨bP, (oP + i * 2), none⟩)) _ rfl (run_indexOp (eval_of (pf1 (by decide) (put_get _ _ _ (by simp only [put_size]; rw [hsz]; decide)))) (eval_of (put_get _ _ _ (by simp only [put_size]; rw [hsz]; decide))) (by rw [haP]; exact idxPart _ _ _ _ _ hiP _)) ?_
      refine ow_run 61 (.pointer (some ⟨bP, ((oP + i * 2) + 1), none⟩)) _ rfl (run_fieldAddr (eval_of (put_get _ _ _ (by simp only [put_size]; rw [hsz]; decide))) (by simp [go_sem, Instr.fieldAt])) ?_
      refine ow_run 62 (.slice ai pi.d.length ci) _ rfl (run_loadOp (eval_of (put_get _ _ _ (by simp only [put_size]; rw [hsz]; decide))) (by simp [go_sem, Instr.loadAt, (Below.cell hbW21 (p := ⟨bP, oP + i * 2 + 1, none⟩) hbP).trans hcP1])) ?_
      refine ow_run 63 (.int .i64 ((k : Nat) : Int)) _ rfl (run_moveOp (eval_of (pf2 (by decide) (pf4 (by decide) (pf8 (by decide) s_12))))) ?_
      refine ow_run 64 (.pointer (some ⟨bX, (oX + k), none⟩)) _ rfl (run_indexOp (eval_of (pf1 (by decide) (put_get _ _ _ (by simp only [put_size]; rw [hsz]; decide)))) (eval_of (put_get _ _ _ (by simp only [put_size]; rw [hsz]; decide))) (by rw [haX]; exact idxByte _ _ _ _ _ hkX _)) ?_
      refine ow_run 65 (.int .u8 (xb.toNat : Int)) _ rfl (run_loadOp (eval_of (put_get _ _ _ (by simp only [put_size]; rw [hsz]; decide))) (by simp [go_sem, Instr.loadAt, (Below.cell hbW21 (p := ⟨bX, oX + k, none⟩) hbX).trans hcX, B8])) ?_
      refine ow_run 66 (.pointer (some ⟨q6, (oi + k), none⟩)) _ rfl (run_indexOp (eval_of (pf16 (by decide) (put_get _ _ _ (by rw [hsz]; decide)))) (eval_of (pf1 (by decide) (pf4 (by decide) (pf8 (by decide) (put_get _ _ _ (by simp only [put_size]; rw [hsz]; decide)))))) (idxBoolRow _ _ _ _ (by omega) _)) ?_
      refine ow_skip _ rfl (run_storeOp (eval_of (put_get _ _ _ (by simp only [put_size]; rw [hsz]; decide))) (eval_cst _ _) (run_store1 rW21_2 (by rw [hv_len hVl]; omega) (by kernel_rfl) rfl)) ?_
      refine fresh (C := fun x W => wpRun _ _ x W _) (fun x X => _ = x ∧ Below w.heap.size w X ∧ RowAt X q1 [.int .i64 next, .slice ao L.length cap] ∧ RowAt X q3 [.int .i64 0, .slice none 0 0] ∧ RowAt X q6 (hvRow ((layW (fillW next win0 (L.take i)) (diffv pi.s next) (pi.d.take k)).set (oi + k) (some xb))) ∧ RowAt X q9 (byRow (layW (fillW next win0 (L.take i)) (diffv pi.s next) (pi.d.take k)))) ⟨rfl, (below_set1 hbW21 (by omega)), (rW21_0.other (by omega)), (rW21_1.other (by omega)), (RowAt.hv rW21_2 hVl hlt1 xb), (rW21_3.other (by omega))⟩ ?_
      rintro _ W26 ⟨rfl, hbW26, rW26_0, rW26_1, rW26_2, rW26_3⟩
      refine ow_run 67 (.pointer (some ⟨q9, (oi + k), none⟩)) _ rfl (run_indexOp (eval_of (pf1 (by decide) (pf4 (by decide) (pf8 (by decide) (put_get _ _ _ (by simp only [put_size]; rw [hsz]; decide)))))) (eval_of (pf2 (by decide) (pf8 (by decide) (put_get _ _ _ (by simp only [put_size]; rw [hsz]; decide))))) (idxByteRow _ _ _ _ (by omega) _)) ?_
      refine ow_skip _ rfl (run_storeOp (eval_of (put_get _ _ _ (by simp only [put_size]; rw [hsz]; decide))) (eval_of (pf2 (by decide) (put_get _ _ _ (by simp only [put_size]; rw [hsz]; decide)))) (run_store1 rW26_3 (by rw [by_len hVl]; omega) (by kernel_rfl) rfl)) ?_
      refine fresh (C := fun x W => wpRun _ _ x W _) (fun x X => _ = x ∧ Below w.heap.size w X ∧ RowAt X q1 [.int .i64 next, .slice ao L.length cap] ∧ RowAt X q3 [.int .i64 0, .slice none 0 0] ∧ RowAt X q6 (hvRow ((layW (fillW next win0 (L.take i)) (diffv pi.s next) (pi.d.take k)).set (oi + k) (some xb))) ∧ RowAt X q9 (byRow ((layW (fillW next win0 (L.take i)) (diffv pi.s next) (pi.d.take k)).set (oi + k) (some xb)))) ⟨rfl, (below_set1 hbW26 (by omega)), (rW26_0.other (by omega)), (rW26_1.other (by omega)), (rW26_2.other (by omega)), (RowAt.by' rW26_3 hVl hlt1 xb)⟩ ?_
      rintro _ W27 ⟨rfl, hbW27, rW27_0, rW27_1, rW27_2, rW27_3⟩
      refine fresh (C := fun x W => wpRun _ [] x W _) (fun x X => _ = X ∧ x.tmps.size = 167 ∧ x.defers = [] ∧ x.tmps[1]? = some (.int .i64 seq) ∧ x.tmps[2]? = some (.slice ad D.length cd) ∧ x.tmps[3]? = some (.pointer (some ⟨q1, 0, none⟩)) ∧ x.tmps[6]? = some (.pointer (some ⟨q3, 0, none⟩)) ∧ x.tmps[8]? = some (.slice (some ⟨q6, 0, none⟩) 2049 2049) ∧ x.tmps[9]? = some (.slice (some ⟨q9, 0, none⟩) 2048 2048) ∧ x.tmps[10]? = some (.int .i64 ((i : Nat) : Int)) ∧ x.tmps[11]? = some (.int .i64 ((oi : Nat) : Int)) ∧ x.tmps[12]? = some (.int .i64 ((k : Nat) : Int))) ⟨rfl, (by simp only [put_size]; exact hsz), (by simp only [put_defers]; exact hdf), (pf1 (by decide) (pf2 (by decide) (pf16 (by decide) s_1))), (pf1 (by decide) (pf2 (by decide) (pf16 (by decide) s_2))), (pf1 (by decide) (pf2 (by decide) (pf16 (by decide) s_3))), (pf1 (by decide) (pf2 (by decide) (pf16 (by decide) s_6))), (pf1 (by decide) (pf2 (by decide) (pf16 (by decide) s_8))), (pf1 (by decide) (pf2 (by decide) (pf16 (by decide) s_9))), (pf1 (by decide) (pf2 (by decide) (pf16 (by decide) s_10))), (pf1 (by decide) (pf2 (by decide) (pf16 (by decide) s_11))), (pf1 (by decide) (pf2 (by decide) (pf16 (by decide) s_12)))⟩ ?_
      clear hsz hdf s_1 s_2 s_3 s_6 s_8 s_9 s_10 s_11 s_12 s_46
      rintro a _ ⟨rfl, hsz, hdf, s_1, s_2, s_3, s_6, s_8, s_9, s_10, s_11, s_12⟩
      refine ow_blk _ ?_
      refine ow_then ?_
      refine ow_region [_, _, _] rfl (by intro o ho; simp only [List.mem_cons, List.not_mem_nil, or_false] at ho; rcases ho with rfl | rfl | rfl <;> rfl) ?_
      refine ow_run 47 (.int .i64 ((k : Nat) : Int)) _ rfl (run_moveOp (eval_of s_12)) ?_
      refine ow_run 48 (.int .i64 (((k + 1) : Nat) : Int)) _ rfl (run_binOp (eval_of (put_get _ _ _ (by rw [hsz]; decide))) (eval_cst _ _) (by simp [go_sem]) (addIw _ _ _ _ (by omega) (by omega) (by omega))) ?_
      refine ow_run 12 (.int .i64 (((k + 1) : Nat) : Int)) _ rfl (run_assignOp (eval_of (put_get _ _ _ (by simp only [put_size]; rw [hsz]; decide)))) ?_
      refine fresh (C := fun x W => wpRun _ [] x W _) (fun x X => _ = X ∧ x.tmps.size = 167 ∧ x.defers = [] ∧ x.tmps[1]? = some (.int .i64 seq) ∧ x.tmps[2]? = some (.slice ad D.length cd) ∧ x.tmps[3]? = some (.pointer (some ⟨q1, 0, none⟩)) ∧ x.tmps[6]? = some (.pointer (some ⟨q3, 0, none⟩)) ∧ x.tmps[8]? = some (.slice (some ⟨q6, 0, none⟩) 2049 2049) ∧ x.tmps[9]? = some (.slice (some ⟨q9, 0, none⟩) 2048 2048) ∧ x.tmps[10]? = some (.int .i64 ((i : Nat) : Int)) ∧ x.tmps[11]? = some (.int .i64 ((oi : Nat) : Int)) ∧ x.tmps[12]? = some (.int .i64 (((k + 1) : Nat) : Int))) ⟨rfl, (by simp only [put_size]; exact hsz), (by simp only [put_defers]; exact hdf), (pf1 (by decide) (pf2 (by decide) s_1)), (pf1 (by decide) (pf2 (by decide) s_2)), (pf1 (by decide) (pf2 (by decide) s_3)), (pf1 (by decide) (pf2 (by decide) s_6)), (pf1 (by decide) (pf2 (by decide) s_8)), (pf1 (by decide) (pf2 (by decide) s_9)), (pf1 (by decide) (pf2 (by decide) s_10)), (pf1 (by decide) (pf2 (by decide) s_11)), (put_get _ _ _ (by simp only [put_size]; rw [hsz]; decide))⟩ ?_
      clear hsz hdf s_1 s_2 s_3 s_6 s_8 s_9 s_10 s_11 s_12
      rintro a _ ⟨rfl, hsz, hdf, s_1, s_2, s_3, s_6, s_8, s_9, s_10, s_11, s_12⟩
      rw [← hpf] at rW27_2 rW27_3
      exact ow_then (hK23 _ _ _ (by omega) ⟨(k + 1), rfl, hkX, hsz, hdf, s_1, s_2, s_3, s_6, s_8, s_9, s_10, s_11, (by first | exact s_12 | (rw [s_12]; congr 2; first | rfl | omega | (push_cast; omega)) | (rw [s_12]; first | rfl | (simp; try omega))), hbW27, rW27_0, rW27_1, rW27_2, rW27_3⟩)
    · skip
      refine ow_false (eval_of (flag_of s_46 hb_25)) ?_
      refine wp_exit ?_
      refine ow_then_exit ?_
      refine ow_then_exit ?_
      refine ow_blk_exit _ ?_
      refine ow_blk _ ?_
      refine ow_then ?_
      refine ow_region [_, _, _] rfl (by intro o ho; simp only [List.mem_cons, List.not_mem_nil, or_false] at ho; rcases ho with rfl | rfl | rfl <;> rfl) ?_
      refine ow_run 27 (.int .i64 ((i : Nat) : Int)) _ rfl (run_moveOp (eval_of s_10)) ?_
      refine ow_run 28 (.int .i64 (((i + 1) : Nat) : Int)) _ rfl (run_binOp (eval_of (put_get _ _ _ (by rw [hsz]; decide))) (eval_cst _ _) (by simp [go_sem]) (addIw _ _ _ _ (by omega) (by omega) (by omega))) ?_
      refine ow_run 10 (.int .i64 (((i + 1) : Nat) : Int)) _ rfl (run_assignOp (eval_of (put_get _ _ _ (by simp only [put_size]; rw [hsz]; decide)))) ?_
      refine fresh (C := fun x W => wpRun _ [] x W _) (fun x X => _ = X ∧ x.tmps.size = 167 ∧ x.defers = [] ∧ x.tmps[1]? = some (.int .i64 seq) ∧ x.tmps[2]? = some (.slice ad D.length cd) ∧ x.tmps[3]? = some (.pointer (some ⟨q1, 0, none⟩)) ∧ x.tmps[6]? = some (.pointer (some ⟨q3, 0, none⟩)) ∧ x.tmps[8]? = some (.slice (some ⟨q6, 0, none⟩) 2049 2049) ∧ x.tmps[9]? = some (.slice (some ⟨q9, 0, none⟩) 2048 2048) ∧ x.tmps[10]? = some (.int .i64 (((i + 1) : Nat) : Int))) ⟨rfl, (by simp only [put_size]; exact hsz), (by simp only [put_defers]; exact hdf), (pf1 (by decide) (pf2 (by decide) s_1)), (pf1 (by decide) (pf2 (by decide) s_2)), (pf1 (by decide) (pf2 (by decide) s_3)), (pf1 (by decide) (pf2 (by decide) s_6)), (pf1 (by decide) (pf2 (by decide) s_8)), (pf1 (by decide) (pf2 (by decide) s_9)), (put_get _ _ _ (by simp only [put_size]; rw [hsz]; decide))⟩ ?_
      clear hsz hdf s_1 s_2 s_3 s_6 s_8 s_9 s_10 s_11 s_12 s_46
      rintro a _ ⟨rfl, hsz, hdf, s_1, s_2, s_3, s_6, s_8, s_9, s_10⟩
      have hke : ¬ k < pi.d.length := by have h := hb_25; rw [decide_eq_false_iff_not] at h; omega
      rw [show k = pi.d.length from by omega, List.take_length, ← fillW_next hpi] at rW21_2 rW21_3
      exact ow_then (hK15 _ _ _ (by omega) ⟨(i + 1), rfl, hiP, hsz, hdf, s_1, s_2, s_3, s_6, s_8, s_9, (by first | exact s_10 | (rw [s_10]; congr 2; first | rfl | omega | (push_cast; omega)) | (rw [s_10]; first | rfl | (simp; try omega))), hbW21, rW21_0, rW21_1, rW21_2, rW21_3⟩)
  · skip
    refine ow_false (eval_of (flag_of s_26 hb_17)) ?_
    refine wp_exit ?_
    refine ow_then_exit ?_
    refine ow_then_exit ?_
    refine ow_blk_exit _ ?_
    refine ow_then ?_
    refine wp_seq ?_
    refine ow_region [_, _, _, _, _] rfl (by intro o ho; simp only [List.mem_cons, List.not_mem_nil, or_false] at ho; rcases ho with rfl | rfl | rfl | rfl | rfl <;> rfl) ?_
    refine ow_run 68 (.int .i64 seq) _ rfl (run_moveOp (eval_of s_1)) ?_
    refine ow_run 69 (.pointer (some ⟨q1, 0, none⟩)) _ rfl (run_fieldAddr (eval_of (pf1 (by decide) s_3)) (by simp [go_sem, Instr.fieldAt])) ?_
    refine ow_run 70 (.int .i64 next) _ rfl (run_loadOp (eval_of (put_get _ _ _ (by simp only [put_size]; rw [hsz]; decide))) (by simp [go_sem, Instr.loadAt, rW13_0.cell (j := 0) rfl])) ?_
    refine ow_call 71 (fun v X => v = (.int .i64 ((os : Nat) : Int)) ∧ W13 = X) rfl _ _ (run_callOp Try.func46 rfl rfl (arr2 (eval_of (pf2 (by decide) (put_get _ _ _ (by rw [hsz]; decide)))) (eval_of (put_get _ _ _ (by simp only [put_size]; rw [hsz]; decide))))) (((off_at ⟨hs0, hs1⟩ hn hos W13)).mono fun e X h => ⟨_, h.1, rfl, h.2⟩) ?_
    rintro _ _ ⟨rfl, rfl⟩
    refine ow_run 13 (.int .i64 ((os : Nat) : Int)) _ rfl (run_assignOp (eval_of (put_get _ _ _ (by simp only [put_size]; rw [hsz]; decide)))) ?_
    refine fresh (C := fun x W => wpRun _ [] x W _) (fun x X => _ = X ∧ x.tmps.size = 167 ∧ x.defers = [] ∧ x.tmps[2]? = some (.slice ad D.length cd) ∧ x.tmps[3]? = some (.pointer (some ⟨q1, 0, none⟩)) ∧ x.tmps[6]? = some (.pointer (some ⟨q3, 0, none⟩)) ∧ x.tmps[8]? = some (.slice (some ⟨q6, 0, none⟩) 2049 2049) ∧ x.tmps[9]? = some (.slice (some ⟨q9, 0, none⟩) 2048 2048) ∧ x.tmps[13]? = some (.int .i64 ((os : Nat) : Int))) ⟨rfl, (by simp only [put_size]; exact hsz), (by simp only [put_defers]; exact hdf), (pf1 (by decide) (pf4 (by decide) s_2)), (pf1 (by decide) (pf4 (by decide) s_3)), (pf1 (by decide) (pf4 (by decide) s_6)), (pf1 (by decide) (pf4 (by decide) s_8)), (pf1 (by decide) (pf4 (by decide) s_9)), (put_get _ _ _ (by simp only [put_size]; rw [hsz]; decide))⟩ ?_
    clear hsz hdf s_1 s_2 s_3 s_6 s_8 s_9 s_10 s_26
    rintro a _ ⟨rfl, hsz, hdf, s_2, s_3, s_6, s_8, s_9, s_13⟩
    refine ow_then ?_
    refine wp_seq ?_
    refine wp_seq ?_
    refine ow_region [_] rfl (by intro o ho; simp only [List.mem_cons, List.not_mem_nil, or_false] at ho; subst ho; rfl) ?_
    refine ow_run 14 (.int .i64 0) _ rfl (run_assignOp (eval_cst _ _)) ?_
    refine fresh (C := fun x W => wpRun _ [] x W _) (fun x X => _ = X ∧ x.tmps.size = 167 ∧ x.defers = [] ∧ x.tmps[2]? = some (.slice ad D.length cd) ∧ x.tmps[3]? = some (.pointer (some ⟨q1, 0, none⟩)) ∧ x.tmps[6]? = some (.pointer (some ⟨q3, 0, none⟩)) ∧ x.tmps[8]? = some (.slice (some ⟨q6, 0, none⟩) 2049 2049) ∧ x.tmps[9]? = some (.slice (some ⟨q9, 0, none⟩) 2048 2048) ∧ x.tmps[13]? = some (.int .i64 ((os : Nat) : Int)) ∧ x.tmps[14]? = some (.int .i64 0)) ⟨rfl, (by simp only [put_size]; exact hsz), (by simp only [put_defers]; exact hdf), (pf1 (by decide) s_2), (pf1 (by decide) s_3), (pf1 (by decide) s_6), (pf1 (by decide) s_8), (pf1 (by decide) s_9), (pf1 (by decide) s_13), (put_get _ _ _ (by rw [hsz]; decide))⟩ ?_
    clear hsz hdf s_2 s_3 s_6 s_8 s_9 s_13
    rintro a _ ⟨rfl, hsz, hdf, s_2, s_3, s_6, s_8, s_9, s_13, s_14⟩
    refine ow_then ?_
    refine wp_block ?_
    have hie : ¬ i < L.length := by have h := hb_17; rw [decide_eq_false_iff_not] at h; omega
    have hzq6 := rW13_2
    rw [show i = L.length from by omega, List.take_length] at hzq6
    have hzq9 := rW13_3
    rw [show i = L.length from by omega, List.take_length] at hzq9
    refine ow_loop (fun N a W => ∃ (k : Nat), N = D.length - k ∧ k ≤ D.length ∧ a.tmps.size = 167 ∧ a.defers = [] ∧ a.tmps[2]? = some (.slice ad D.length cd) ∧ a.tmps[3]? = some (.pointer (some ⟨q1, 0, none⟩)) ∧ a.tmps[6]? = some (.pointer (some ⟨q3, 0, none⟩)) ∧ a.tmps[8]? = some (.slice (some ⟨q6, 0, none⟩) 2049 2049) ∧ a.tmps[9]? = some (.slice (some ⟨q9, 0, none⟩) 2048 2048) ∧ a.tmps[13]? = some (.int .i64 ((os : Nat) : Int)) ∧ a.tmps[14]? = some (.int .i64 ((k : Nat) : Int)) ∧ Below w.heap.size w W ∧ RowAt W q1 [.int .i64 next, .slice ao L.length cap] ∧ RowAt W q3 [.int .i64 0, .slice none 0 0] ∧ RowAt W q6 (hvRow (layW (fillW next win0 L) (diffv seq next) (D.take k))) ∧ RowAt W q9 (byRow (layW (fillW next win0 L) (diffv seq next) (D.take k)))) _ ⟨0, rfl, Nat.zero_le _, hsz, hdf, s_2, s_3, s_6, s_8, s_9, s_13, (by first | exact s_14 | (rw [s_14]; congr 2; first | rfl | omega | (push_cast; omega)) | (rw [s_14]; first | rfl | (simp; try omega))), hbW13, rW13_0, rW13_1, hzq6, hzq9⟩ ?_
    clear hsz hdf s_2 s_3 s_6 s_8 s_9 s_13 s_14
    rintro N a W33 ⟨k, rfl, hkD, hsz, hdf, s_2, s_3, s_6, s_8, s_9, s_13, s_14, hbW33, rW33_0, rW33_1, rW33_2, rW33_3⟩
    intro K35 hK35
    refine wp_seq ?_
    refine wp_seq ?_
    refine ow_region [_, _, _, _] rfl (by intro o ho; simp only [List.mem_cons, List.not_mem_nil, or_false] at ho; rcases ho with rfl | rfl | rfl | rfl <;> rfl) ?_
    refine ow_run 72 (.int .i64 ((k : Nat) : Int)) _ rfl (run_moveOp (eval_of s_14)) ?_
    refine ow_run 73 (.slice ad D.length cd) _ rfl (run_moveOp (eval_of (pf1 (by decide) s_2))) ?_
    refine ow_run 74 (.int .i64 ((D.length : Nat) : Int)) _ rfl (run_lenOp Try.underlying34 (eval_of (put_get _ _ _ (by simp only [put_size]; rw [hsz]; decide)))) ?_
    refine ow_run 75 (.bool (decide (((k : Nat) : Int) < ((D.length : Nat) : Int)))) _ rfl (run_binOp (eval_of (pf2 (by decide) (put_get _ _ _ (by rw [hsz]; decide)))) (eval_of (put_get _ _ _ (by simp only [put_size]; rw [hsz]; decide))) (by simp [go_sem]) (lssIw _ _ _)) ?_
    refine fresh (C := fun x W => wpRun _ [] x W _) (fun x X => _ = X ∧ x.tmps.size = 167 ∧ x.defers = [] ∧ x.tmps[2]? = some (.slice ad D.length cd) ∧ x.tmps[3]? = some (.pointer (some ⟨q1, 0, none⟩)) ∧ x.tmps[6]? = some (.pointer (some ⟨q3, 0, none⟩)) ∧ x.tmps[8]? = some (.slice (some ⟨q6, 0, none⟩) 2049 2049) ∧ x.tmps[9]? = some (.slice (some ⟨q9, 0, none⟩) 2048 2048) ∧ x.tmps[13]? = some (.int .i64 ((os : Nat) : Int)) ∧ x.tmps[14]? = some (.int .i64 ((k : Nat) : Int)) ∧ x.tmps[75]? = some (.bool (decide (((k : Nat) : Int) < ((D.length : Nat) : Int))))) ⟨rfl, (by simp only [put_size]; exact hsz), (by simp only [put_defers]; exact hdf), (pf4 (by decide) s_2), (pf4 (by decide) s_3), (pf4 (by decide) s_6), (pf4 (by decide) s_8), (pf4 (by decide) s_9), (pf4 (by decide) s_13), (pf4 (by decide) s_14), (put_get _ _ _ (by simp only [put_size]; rw [hsz]; decide))⟩ ?_
    clear hsz hdf s_2 s_3 s_6 s_8 s_9 s_13 s_14
    rintro a _ ⟨rfl, hsz, hdf, s_2, s_3, s_6, s_8, s_9, s_13, s_14, s_75⟩
    refine ow_then ?_
    rcases Bool.eq_false_or_eq_true ((decide (((k : Nat) : Int) < ((D.length : Nat) : Int)))) with hb_37 | hb_37
    · skip
      refine ow_true (eval_of (flag_of s_75 hb_37)) ?_
      refine wp_skip ?_
      refine ow_then ?_
      refine wp_seq ?_
      refine wp_block ?_
      refine wp_seq ?_
      have hkX : k < D.length := by have h := hb_37; rw [decide_eq_true_eq] at h; omega
      obtain ⟨xb, hx⟩ : ∃ x, D[k]? = some x := ⟨_, List.getElem?_eq_getElem hkX⟩
      obtain ⟨bX, oX, haX, hbX, hcXs⟩ := HD.out (fun e => by rw [e] at hkX; simp at hkX)
      have hcX := bytes_get hcXs hx
      have hVl : (layW (fillW next win0 L) (diffv seq next) (D.take k)).length = 2048 := by rw [layW_len, fillW_len, win0_len]
      refine ow_region [_, _, _, _, _] rfl (by intro o ho; simp only [List.mem_cons, List.not_mem_nil, or_false] at ho; rcases ho with rfl | rfl | rfl | rfl | rfl <;> rfl) ?_
      refine ow_run 78 (.int .i64 ((os : Nat) : Int)) _ rfl (run_moveOp (eval_of s_13)) ?_
      refine ow_run 79 (.int .i64 ((k : Nat) : Int)) _ rfl (run_moveOp (eval_of (pf1 (by decide) s_14))) ?_
      refine ow_run 80 (.int .i64 (((os : Nat) : Int) + ((k : Nat) : Int))) _ rfl (run_binOp (eval_of (pf1 (by decide) (put_get _ _ _ (by rw [hsz]; decide)))) (eval_of (put_get _ _ _ (by simp only [put_size]; rw [hsz]; decide))) (by simp [go_sem]) (addIw _ _ _ _ (by omega) (by omega) (by omega))) ?_
      obtain ⟨at3, hat3⟩ : ∃ c : Nat, (offv seq next + (k : Int)) % 4294967296 = c := ⟨((offv seq next + (k : Int)) % 4294967296).toNat, by omega⟩
      refine ow_run 81 (.int .i64 ((at3 : Nat) : Int)) _ rfl (run_binOp (eval_of (put_get _ _ _ (by simp only [put_size]; rw [hsz]; decide))) (eval_cst _ _) (by simp [go_sem]) (remIw _ _ _ (by omega) (by rw [← hos]; exact hat3))) ?_
      refine ow_run 15 (.int .i64 ((at3 : Nat) : Int)) _ rfl (run_assignOp (eval_of (put_get _ _ _ (by simp only [put_size]; rw [hsz]; decide)))) ?_
      refine fresh (C := fun x W => wpRun _ [] x W _) (fun x X => _ = X ∧ x.tmps.size = 167 ∧ x.defers = [] ∧ x.tmps[2]? = some (.slice ad D.length cd) ∧ x.tmps[3]? = some (.pointer (some ⟨q1, 0, none⟩)) ∧ x.tmps[6]? = some (.pointer (some ⟨q3, 0, none⟩)) ∧ x.tmps[8]? = some (.slice (some ⟨q6, 0, none⟩) 2049 2049) ∧ x.tmps[9]? = some (.slice (some ⟨q9, 0, none⟩) 2048 2048) ∧ x.tmps[13]? = some (.int .i64 ((os : Nat) : Int)) ∧ x.tmps[14]? = some (.int .i64 ((k : Nat) : Int)) ∧ x.tmps[15]? = some (.int .i64 ((at3 : Nat) : Int))) ⟨rfl, (by simp only [put_size]; exact hsz), (by simp only [put_defers]; exact hdf), (pf1 (by decide) (pf4 (by decide) s_2)), (pf1 (by decide) (pf4 (by decide) s_3)), (pf1 (by decide) (pf4 (by decide) s_6)), (pf1 (by decide) (pf4 (by decide) s_8)), (pf1 (by decide) (pf4 (by decide) s_9)), (pf1 (by decide) (pf4 (by decide) s_13)), (pf1 (by decide) (pf4 (by decide) s_14)), (put_get _ _ _ (by simp only [put_size]; rw [hsz]; decide))⟩ ?_
      clear hsz hdf s_2 s_3 s_6 s_8 s_9 s_13 s_14 s_75
      rintro a _ ⟨rfl, hsz, hdf, s_2, s_3, s_6, s_8, s_9, s_13, s_14, s_15⟩
      refine ow_then ?_
      refine wp_seq ?_
      rcases Bool.eq_false_or_eq_true ((decide (((at3 : Nat) : Int) < 2048))) with hb_39 | hb_39
      · skip
        have hlt3 : at3 < 2048 := by have h := hb_39; rw [decide_eq_true_eq] at h; omega
        obtain ⟨y, hy⟩ : ∃ y, (layW (fillW next win0 L) (diffv seq next) (D.take k))[at3]? = some y := ⟨_, List.getElem?_eq_getElem (by rw [hVl]; exact hlt3)⟩
        have hra := ref_step hVl hat3 (by omega) hlt3 hx hy
        refine owl_region [_, _, _, _, _, _, _, _, _] rfl ?_
        refine owl_run (wanted_none rfl) 82 (.int .i64 ((at3 : Nat) : Int)) _ rfl (run_moveOp (eval_of s_15)) ?_
        refine owl_run (wanted_none rfl) 83 (.bool true) _ rfl (run_binOp (eval_of (put_get _ _ _ (by rw [hsz]; decide))) (eval_cst _ _) (by simp [go_sem]) (lssIb _ _ _ true hb_39)) ?_
        refine owl_run (wanted_none rfl) 84 (.bool true) _ rfl (run_moveOp (eval_of (put_get _ _ _ (by simp only [put_size]; rw [hsz]; decide)))) ?_
        refine owg_run 2 84 true rfl (by kernel_rfl) (put_get _ _ _ (by simp only [put_size]; rw [hsz]; decide)) 85 (.slice (some ⟨q6, 0, none⟩) 2049 2049) _ rfl (run_moveOp (eval_of (pf1 (by decide) (pf2 (by decide) s_8)))) ?_
        refine owg_run 2 84 true rfl (by kernel_rfl) (pf1 (by decide) (put_get _ _ _ (by simp only [put_size]; rw [hsz]; decide))) 86 (.int .i64 ((at3 : Nat) : Int)) _ rfl (run_moveOp (eval_of (pf4 (by decide) s_15))) ?_
        refine owg_run 2 84 true rfl (by kernel_rfl) (pf2 (by decide) (put_get _ _ _ (by simp only [put_size]; rw [hsz]; decide))) 87 (.pointer (some ⟨q6, at3, none⟩)) _ rfl (run_indexOp (eval_of (pf1 (by decide) (put_get _ _ _ (by simp only [put_size]; rw [hsz]; decide)))) (eval_of (put_get _ _ _ (by simp only [put_size]; rw [hsz]; decide))) (idxBoolRow _ _ _ _ (by omega) _)) ?_
        refine owg_run 2 84 true rfl (by kernel_rfl) (pf1 (by decide) (pf2 (by decide) (put_get _ _ _ (by simp only [put_size]; rw [hsz]; decide)))) 88 (.bool (isS y)) _ rfl (run_loadOp (eval_of (put_get _ _ _ (by simp only [put_size]; rw [hsz]; decide))) (by simp [go_sem, Instr.loadAt, rW33_2.1 _ _ (hv_get hy)])) ?_
        refine owg_run 2 84 true rfl (by kernel_rfl) (pf4 (by decide) (put_get _ _ _ (by simp only [put_size]; rw [hsz]; decide))) 89 (.bool (!(isS y))) _ rfl (run_notOp (eval_of (put_get _ _ _ (by simp only [put_size]; rw [hsz]; decide)))) ?_
        refine owl_run (wanted_none rfl) 90 (.bool (!(isS y))) _ rfl (run_pickT (eval_of (pf1 (by decide) (pf4 (by decide) (put_get _ _ _ (by simp only [put_size]; rw [hsz]; decide))))) (eval_of (put_get _ _ _ (by simp only [put_size]; rw [hsz]; decide)))) ?_
        refine fresh (C := fun x W => WL _ _ _ [] x W) (fun x X => _ = X ∧ x.tmps.size = 167 ∧ x.defers = [] ∧ x.tmps[2]? = some (.slice ad D.length cd) ∧ x.tmps[3]? = some (.pointer (some ⟨q1, 0, none⟩)) ∧ x.tmps[6]? = some (.pointer (some ⟨q3, 0, none⟩)) ∧ x.tmps[8]? = some (.slice (some ⟨q6, 0, none⟩) 2049 2049) ∧ x.tmps[9]? = some (.slice (some ⟨q9, 0, none⟩) 2048 2048) ∧ x.tmps[13]? = some (.int .i64 ((os : Nat) : Int)) ∧ x.tmps[14]? = some (.int .i64 ((k : Nat) : Int)) ∧ x.tmps[15]? = some (.int .i64 ((at3 : Nat) : Int)) ∧ x.tmps[90]? = some (.bool (!(isS y)))) ⟨rfl, (by simp only [put_size]; exact hsz), (by simp only [put_defers]; exact hdf), (pf1 (by decide) (pf8 (by decide) s_2)), (pf1 (by decide) (pf8 (by decide) s_3)), (pf1 (by decide) (pf8 (by decide) s_6)), (pf1 (by decide) (pf8 (by decide) s_8)), (pf1 (by decide) (pf8 (by decide) s_9)), (pf1 (by decide) (pf8 (by decide) s_13)), (pf1 (by decide) (pf8 (by decide) s_14)), (pf1 (by decide) (pf8 (by decide) s_15)), (put_get _ _ _ (by simp only [put_size]; rw [hsz]; decide))⟩ ?_
        clear hsz hdf s_2 s_3 s_6 s_8 s_9 s_13 s_14 s_15
        rintro a _ ⟨rfl, hsz, hdf, s_2, s_3, s_6, s_8, s_9, s_13, s_14, s_15, s_90⟩
        refine wl_done ?_
        refine ow_then ?_
        rcases Bool.eq_false_or_eq_true ((isS y)) with hb_41 | hb_41
        · skip
          refine ow_false (eval_of (flag_of s_90 (not_of hb_41))) ?_
          refine wp_skip ?_
          refine ow_blk _ ?_
          refine ow_then ?_
          refine ow_region [_, _, _] rfl (by intro o ho; simp only [List.mem_cons, List.not_mem_nil, or_false] at ho; rcases ho with rfl | rfl | rfl <;> rfl) ?_
          refine ow_run 76 (.int .i64 ((k : Nat) : Int)) _ rfl (run_moveOp (eval_of s_14)) ?_
          refine ow_run 77 (.int .i64 (((k + 1) : Nat) : Int)) _ rfl (run_binOp (eval_of (put_get _ _ _ (by rw [hsz]; decide))) (eval_cst _ _) (by simp [go_sem]) (addIw _ _ _ _ (by omega) (by omega) (by omega))) ?_
          refine ow_run 14 (.int .i64 (((k + 1) : Nat) : Int)) _ rfl (run_assignOp (eval_of (put_get _ _ _ (by simp only [put_size]; rw [hsz]; decide)))) ?_
          refine fresh (C := fun x W => wpRun _ [] x W _) (fun x X => _ = X ∧ x.tmps.size = 167 ∧ x.defers = [] ∧ x.tmps[2]? = some (.slice ad D.length cd) ∧ x.tmps[3]? = some (.pointer (some ⟨q1, 0, none⟩)) ∧ x.tmps[6]? = some (.pointer (some ⟨q3, 0, none⟩)) ∧ x.tmps[8]? = some (.slice (some ⟨q6, 0, none⟩) 2049 2049) ∧ x.tmps[9]? = some (.slice (some ⟨q9, 0, none⟩) 2048 2048) ∧ x.tmps[13]? = some (.int .i64 ((os : Nat) : Int)) ∧ x.tmps[14]? = some (.int .i64 (((k + 1) : Nat) : Int))) ⟨rfl, (by simp only [put_size]; exact hsz), (by simp only [put_defers]; exact hdf), (pf1 (by decide) (pf2 (by decide) s_2)), (pf1 (by decide) (pf2 (by decide) s_3)), (pf1 (by decide) (pf2 (by decide) s_6)), (pf1 (by decide) (pf2 (by decide) s_8)), (pf1 (by decide) (pf2 (by decide) s_9)), (pf1 (by decide) (pf2 (by decide) s_13)), (put_get _ _ _ (by simp only [put_size]; rw [hsz]; decide))⟩ ?_
          clear hsz hdf s_2 s_3 s_6 s_8 s_9 s_13 s_14 s_15 s_90
          rintro a _ ⟨rfl, hsz, hdf, s_2, s_3, s_6, s_8, s_9, s_13, s_14⟩
          rw [← hra.2 hb_41] at rW33_2 rW33_3
          exact ow_then (hK35 _ _ _ (by omega) ⟨(k + 1), rfl, hkX, hsz, hdf, s_2, s_3, s_6, s_8, s_9, s_13, (by first | exact s_14 | (rw [s_14]; congr 2; first | rfl | omega | (push_cast; omega)) | (rw [s_14]; first | rfl | (simp; try omega))), hbW33, rW33_0, rW33_1, rW33_2, rW33_3⟩)
        · skip
          refine ow_true (eval_of (flag_of s_90 (not_of hb_41))) ?_
          refine ow_region [_, _, _, _, _, _, _, _, _, _, _, _] rfl (by intro o ho; simp only [List.mem_cons, List.not_mem_nil, or_false] at ho; rcases ho with rfl | rfl | rfl | rfl | rfl | rfl | rfl | rfl | rfl | rfl | rfl | rfl <;> rfl) ?_
          refine ow_run 91 (.slice (some ⟨q6, 0, none⟩) 2049 2049) _ rfl (run_moveOp (eval_of s_8)) ?_
          refine ow_run 92 (.int .i64 ((at3 : Nat) : Int)) _ rfl (run_moveOp (eval_of (pf1 (by decide) s_15))) ?_
          refine ow_run 93 (.slice (some ⟨q9, 0, none⟩) 2048 2048) _ rfl (run_moveOp (eval_of (pf2 (by decide) s_9))) ?_
          refine ow_run 94 (.int .i64 ((at3 : Nat) : Int)) _ rfl (run_moveOp (eval_of (pf1 (by decide) (pf2 (by decide) s_15)))) ?_
          refine ow_run 95 (.slice ad D.length cd) _ rfl (run_moveOp (eval_of (pf4 (by decide) s_2))) ?_
          refine ow_run 96 (.int .i64 ((k : Nat) : Int)) _ rfl (run_moveOp (eval_of (pf1 (by decide) (pf4 (by decide) s_14)))) ?_
          refine ow_run 97 (.pointer (some ⟨bX, (oX + k), none⟩)) _ rfl (run_indexOp (eval_of (pf1 (by decide) (put_get _ _ _ (by simp only [put_size]; rw [hsz]; decide)))) (eval_of (put_get _ _ _ (by simp only [put_size]; rw [hsz]; decide))) (by rw [haX]; exact idxByte _ _ _ _ _ hkX _)) ?_
          refine ow_run 98 (.int .u8 (xb.toNat : Int)) _ rfl (run_loadOp (eval_of (put_get _ _ _ (by simp only [put_size]; rw [hsz]; decide))) (by simp [go_sem, Instr.loadAt, (Below.cell hbW33 (p := ⟨bX, oX + k, none⟩) hbX).trans hcX, B8])) ?_
          refine ow_run 99 (.pointer (some ⟨q6, at3, none⟩)) _ rfl (run_indexOp (eval_of (pf1 (by decide) (pf2 (by decide) (pf4 (by decide) (put_get _ _ _ (by rw [hsz]; decide)))))) (eval_of (pf2 (by decide) (pf4 (by decide) (put_get _ _ _ (by simp only [put_size]; rw [hsz]; decide))))) (idxBoolRow _ _ _ _ (by omega) _)) ?_
          refine ow_skip _ rfl (run_storeOp (eval_of (put_get _ _ _ (by simp only [put_size]; rw [hsz]; decide))) (eval_cst _ _) (run_store1 rW33_2 (by rw [hv_len hVl]; omega) (by kernel_rfl) rfl)) ?_
          refine fresh (C := fun x W => wpRun _ _ x W _) (fun x X => _ = x ∧ Below w.heap.size w X ∧ RowAt X q1 [.int .i64 next, .slice ao L.length cap] ∧ RowAt X q3 [.int .i64 0, .slice none 0 0] ∧ RowAt X q6 (hvRow ((layW (fillW next win0 L) (diffv seq next) (D.take k)).set at3 (some xb))) ∧ RowAt X q9 (byRow (layW (fillW next win0 L) (diffv seq next) (D.take k)))) ⟨rfl, (below_set1 hbW33 (by omega)), (rW33_0.other (by omega)), (rW33_1.other (by omega)), (RowAt.hv rW33_2 hVl hlt3 xb), (rW33_3.other (by omega))⟩ ?_
          rintro _ W43 ⟨rfl, hbW43, rW43_0, rW43_1, rW43_2, rW43_3⟩
          refine ow_run 100 (.pointer (some ⟨q9, at3, none⟩)) _ rfl (run_indexOp (eval_of (pf2 (by decide) (pf4 (by decide) (put_get _ _ _ (by simp only [put_size]; rw [hsz]; decide))))) (eval_of (pf1 (by decide) (pf4 (by decide) (put_get _ _ _ (by simp only [put_size]; rw [hsz]; decide))))) (idxByteRow _ _ _ _ (by omega) _)) ?_
          refine ow_skip _ rfl (run_storeOp (eval_of (put_get _ _ _ (by simp only [put_size]; rw [hsz]; decide))) (eval_of (pf2 (by decide) (put_get _ _ _ (by simp only [put_size]; rw [hsz]; decide)))) (run_store1 rW43_3 (by rw [by_len hVl]; omega) (by kernel_rfl) rfl)) ?_
          refine fresh (C := fun x W => wpRun _ _ x W _) (fun x X => _ = x ∧ Below w.heap.size w X ∧ RowAt X q1 [.int .i64 next, .slice ao L.length cap] ∧ RowAt X q3 [.int .i64 0, .slice none 0 0] ∧ RowAt X q6 (hvRow ((layW (fillW next win0 L) (diffv seq next) (D.take k)).set at3 (some xb))) ∧ RowAt X q9 (byRow ((layW (fillW next win0 L) (diffv seq next) (D.take k)).set at3 (some xb)))) ⟨rfl, (below_set1 hbW43 (by omega)), (rW43_0.other (by omega)), (rW43_1.other (by omega)), (rW43_2.other (by omega)), (RowAt.by' rW43_3 hVl hlt3 xb)⟩ ?_
          rintro _ W44 ⟨rfl, hbW44, rW44_0, rW44_1, rW44_2, rW44_3⟩
          refine fresh (C := fun x W => wpRun _ [] x W _) (fun x X => _ = X ∧ x.tmps.size = 167 ∧ x.defers = [] ∧ x.tmps[2]? = some (.slice ad D.length cd) ∧ x.tmps[3]? = some (.pointer (some ⟨q1, 0, none⟩)) ∧ x.tmps[6]? = some (.pointer (some ⟨q3, 0, none⟩)) ∧ x.tmps[8]? = some (.slice (some ⟨q6, 0, none⟩) 2049 2049) ∧ x.tmps[9]? = some (.slice (some ⟨q9, 0, none⟩) 2048 2048) ∧ x.tmps[13]? = some (.int .i64 ((os : Nat) : Int)) ∧ x.tmps[14]? = some (.int .i64 ((k : Nat) : Int))) ⟨rfl, (by simp only [put_size]; exact hsz), (by simp only [put_defers]; exact hdf), (pf2 (by decide) (pf8 (by decide) s_2)), (pf2 (by decide) (pf8 (by decide) s_3)), (pf2 (by decide) (pf8 (by decide) s_6)), (pf2 (by decide) (pf8 (by decide) s_8)), (pf2 (by decide) (pf8 (by decide) s_9)), (pf2 (by decide) (pf8 (by decide) s_13)), (pf2 (by decide) (pf8 (by decide) s_14))⟩ ?_
          clear hsz hdf s_2 s_3 s_6 s_8 s_9 s_13 s_14 s_15 s_90
          rintro a _ ⟨rfl, hsz, hdf, s_2, s_3, s_6, s_8, s_9, s_13, s_14⟩
          refine ow_blk _ ?_
          refine ow_then ?_
          refine ow_region [_, _, _] rfl (by intro o ho; simp only [List.mem_cons, List.not_mem_nil, or_false] at ho; rcases ho with rfl | rfl | rfl <;> rfl) ?_
          refine ow_run 76 (.int .i64 ((k : Nat) : Int)) _ rfl (run_moveOp (eval_of s_14)) ?_
          refine ow_run 77 (.int .i64 (((k + 1) : Nat) : Int)) _ rfl (run_binOp (eval_of (put_get _ _ _ (by rw [hsz]; decide))) (eval_cst _ _) (by simp [go_sem]) (addIw _ _ _ _ (by omega) (by omega) (by omega))) ?_
          refine ow_run 14 (.int .i64 (((k + 1) : Nat) : Int)) _ rfl (run_assignOp (eval_of (put_get _ _ _ (by simp only [put_size]; rw [hsz]; decide)))) ?_
          refine fresh (C := fun x W => wpRun _ [] x W _) (fun x X => _ = X ∧ x.tmps.size = 167 ∧ x.defers = [] ∧ x.tmps[2]? = some (.slice ad D.length cd) ∧ x.tmps[3]? = some (.pointer (some ⟨q1, 0, none⟩)) ∧ x.tmps[6]? = some (.pointer (some ⟨q3, 0, none⟩)) ∧ x.tmps[8]? = some (.slice (some ⟨q6, 0, none⟩) 2049 2049) ∧ x.tmps[9]? = some (.slice (some ⟨q9, 0, none⟩) 2048 2048) ∧ x.tmps[13]? = some (.int .i64 ((os : Nat) : Int)) ∧ x.tmps[14]? = some (.int .i64 (((k + 1) : Nat) : Int))) ⟨rfl, (by simp only [put_size]; exact hsz), (by simp only [put_defers]; exact hdf), (pf1 (by decide) (pf2 (by decide) s_2)), (pf1 (by decide) (pf2 (by decide) s_3)), (pf1 (by decide) (pf2 (by decide) s_6)), (pf1 (by decide) (pf2 (by decide) s_8)), (pf1 (by decide) (pf2 (by decide) s_9)), (pf1 (by decide) (pf2 (by decide) s_13)), (put_get _ _ _ (by simp only [put_size]; rw [hsz]; decide))⟩ ?_
          clear hsz hdf s_2 s_3 s_6 s_8 s_9 s_13 s_14
          rintro a _ ⟨rfl, hsz, hdf, s_2, s_3, s_6, s_8, s_9, s_13, s_14⟩
          rw [← hra.1 hb_41] at rW44_2 rW44_3
          exact ow_then (hK35 _ _ _ (by omega) ⟨(k + 1), rfl, hkX, hsz, hdf, s_2, s_3, s_6, s_8, s_9, s_13, (by first | exact s_14 | (rw [s_14]; congr 2; first | rfl | omega | (push_cast; omega)) | (rw [s_14]; first | rfl | (simp; try omega))), hbW44, rW44_0, rW44_1, rW44_2, rW44_3⟩)
      · skip
        have hra2 := ref_skip hVl hat3 (by omega) (by have h := hb_39; rw [decide_eq_false_iff_not] at h; omega) hx
        refine owl_region [_, _, _, _, _, _, _, _, _] rfl ?_
        refine owl_run (wanted_none rfl) 82 (.int .i64 ((at3 : Nat) : Int)) _ rfl (run_moveOp (eval_of s_15)) ?_
        refine owl_run (wanted_none rfl) 83 (.bool false) _ rfl (run_binOp (eval_of (put_get _ _ _ (by rw [hsz]; decide))) (eval_cst _ _) (by simp [go_sem]) (lssIb _ _ _ false hb_39)) ?_
        refine owl_run (wanted_none rfl) 84 (.bool false) _ rfl (run_moveOp (eval_of (put_get _ _ _ (by simp only [put_size]; rw [hsz]; decide)))) ?_
        refine owg_no 2 84 true false rfl (by kernel_rfl) (put_get _ _ _ (by simp only [put_size]; rw [hsz]; decide)) (by decide) 85 rfl ?_
        refine owg_no 2 84 true false rfl (by kernel_rfl) (pf1 (by decide) (put_get _ _ _ (by simp only [put_size]; rw [hsz]; decide))) (by decide) 86 rfl ?_
        refine owg_no 2 84 true false rfl (by kernel_rfl) (pf2 (by decide) (put_get _ _ _ (by simp only [put_size]; rw [hsz]; decide))) (by decide) 87 rfl ?_
        refine owg_no 2 84 true false rfl (by kernel_rfl) (pf1 (by decide) (pf2 (by decide) (put_get _ _ _ (by simp only [put_size]; rw [hsz]; decide)))) (by decide) 88 rfl ?_
        refine owg_no 2 84 true false rfl (by kernel_rfl) (pf4 (by decide) (put_get _ _ _ (by simp only [put_size]; rw [hsz]; decide))) (by decide) 89 rfl ?_
        refine owl_run (wanted_none rfl) 90 (.bool false) _ rfl (run_pickF (eval_of (pf1 (by decide) (pf4 (by decide) (put_get _ _ _ (by simp only [put_size]; rw [hsz]; decide))))) (eval_cst _ _)) ?_
        refine fresh (C := fun x W => WL _ _ _ [] x W) (fun x X => _ = X ∧ x.tmps.size = 167 ∧ x.defers = [] ∧ x.tmps[2]? = some (.slice ad D.length cd) ∧ x.tmps[3]? = some (.pointer (some ⟨q1, 0, none⟩)) ∧ x.tmps[6]? = some (.pointer (some ⟨q3, 0, none⟩)) ∧ x.tmps[8]? = some (.slice (some ⟨q6, 0, none⟩) 2049 2049) ∧ x.tmps[9]? = some (.slice (some ⟨q9, 0, none⟩) 2048 2048) ∧ x.tmps[13]? = some (.int .i64 ((os : Nat) : Int)) ∧ x.tmps[14]? = some (.int .i64 ((k : Nat) : Int)) ∧ x.tmps[15]? = some (.int .i64 ((at3 : Nat) : Int)) ∧ x.tmps[90]? = some (.bool false)) ⟨rfl, (by simp only [put_size]; exact hsz), (by simp only [put_defers]; exact hdf), (pf1 (by decide) (pf8 (by decide) s_2)), (pf1 (by decide) (pf8 (by decide) s_3)), (pf1 (by decide) (pf8 (by decide) s_6)), (pf1 (by decide) (pf8 (by decide) s_8)), (pf1 (by decide) (pf8 (by decide) s_9)), (pf1 (by decide) (pf8 (by decide) s_13)), (pf1 (by decide) (pf8 (by decide) s_14)), (pf1 (by decide) (pf8 (by decide) s_15)), (put_get _ _ _ (by simp only [put_size]; rw [hsz]; decide))⟩ ?_
        clear hsz hdf s_2 s_3 s_6 s_8 s_9 s_13 s_14 s_15
        rintro a _ ⟨rfl, hsz, hdf, s_2, s_3, s_6, s_8, s_9, s_13, s_14, s_15, s_90⟩
        refine wl_done ?_
        refine ow_then ?_
        refine ow_false (eval_of s_90) ?_
        refine wp_skip ?_
        refine ow_blk _ ?_
        refine ow_then ?_
        refine ow_region [_, _, _] rfl (by intro o ho; simp only [List.mem_cons, List.not_mem_nil, or_false] at ho; rcases ho with rfl | rfl | rfl <;> rfl) ?_
        refine ow_run 76 (.int .i64 ((k : Nat) : Int)) _ rfl (run_moveOp (eval_of s_14)) ?_
        refine ow_run 77 (.int .i64 (((k + 1) : Nat) : Int)) _ rfl (run_binOp (eval_of (put_get _ _ _ (by rw [hsz]; decide))) (eval_cst _ _) (by simp [go_sem]) (addIw _ _ _ _ (by omega) (by omega) (by omega))) ?_
        refine ow_run 14 (.int .i64 (((k + 1) : Nat) : Int)) _ rfl (run_assignOp (eval_of (put_get _ _ _ (by simp only [put_size]; rw [hsz]; decide)))) ?_
        refine fresh (C := fun x W => wpRun _ [] x W _) (fun x X => _ = X ∧ x.tmps.size = 167 ∧ x.defers = [] ∧ x.tmps[2]? = some (.slice ad D.length cd) ∧ x.tmps[3]? = some (.pointer (some ⟨q1, 0, none⟩)) ∧ x.tmps[6]? = some (.pointer (some ⟨q3, 0, none⟩)) ∧ x.tmps[8]? = some (.slice (some ⟨q6, 0, none⟩) 2049 2049) ∧ x.tmps[9]? = some (.slice (some ⟨q9, 0, none⟩) 2048 2048) ∧ x.tmps[13]? = some (.int .i64 ((os : Nat) : Int)) ∧ x.tmps[14]? = some (.int .i64 (((k + 1) : Nat) : Int))) ⟨rfl, (by simp only [put_size]; exact hsz), (by simp only [put_defers]; exact hdf), (pf1 (by decide) (pf2 (by decide) s_2)), (pf1 (by decide) (pf2 (by decide) s_3)), (pf1 (by decide) (pf2 (by decide) s_6)), (pf1 (by decide) (pf2 (by decide) s_8)), (pf1 (by decide) (pf2 (by decide) s_9)), (pf1 (by decide) (pf2 (by decide) s_13)), (put_get _ _ _ (by simp only [put_size]; rw [hsz]; decide))⟩ ?_
        clear hsz hdf s_2 s_3 s_6 s_8 s_9 s_13 s_14 s_15 s_90
        rintro a _ ⟨rfl, hsz, hdf, s_2, s_3, s_6, s_8, s_9, s_13, s_14⟩
        rw [← hra2] at rW33_2 rW33_3
        exact ow_then (hK35 _ _ _ (by omega) ⟨(k + 1), rfl, hkX, hsz, hdf, s_2, s_3, s_6, s_8, s_9, s_13, (by first | exact s_14 | (rw [s_14]; congr 2; first | rfl | omega | (push_cast; omega)) | (rw [s_14]; first | rfl | (simp; try omega))), hbW33, rW33_0, rW33_1, rW33_2, rW33_3⟩)
    · skip
      refine ow_false (eval_of (flag_of s_75 hb_37)) ?_
      refine wp_exit ?_
      refine ow_then_exit ?_
      refine ow_then_exit ?_
      refine ow_blk_exit _ ?_
      refine ow_then ?_
      refine wp_seq ?_
      refine ow_region [_] rfl (by intro o ho; simp only [List.mem_cons, List.not_mem_nil, or_false] at ho; subst ho; rfl) ?_
      refine ow_run 16 (.int .i64 0) _ rfl (run_assignOp (eval_cst _ _)) ?_
      refine fresh (C := fun x W => wpRun _ [] x W _) (fun x X => _ = X ∧ x.tmps.size = 167 ∧ x.defers = [] ∧ x.tmps[3]? = some (.pointer (some ⟨q1, 0, none⟩)) ∧ x.tmps[6]? = some (.pointer (some ⟨q3, 0, none⟩)) ∧ x.tmps[8]? = some (.slice (some ⟨q6, 0, none⟩) 2049 2049) ∧ x.tmps[9]? = some (.slice (some ⟨q9, 0, none⟩) 2048 2048) ∧ x.tmps[16]? = some (.int .i64 0)) ⟨rfl, (by simp only [put_size]; exact hsz), (by simp only [put_defers]; exact hdf), (pf1 (by decide) s_3), (pf1 (by decide) s_6), (pf1 (by decide) s_8), (pf1 (by decide) s_9), (put_get _ _ _ (by rw [hsz]; decide))⟩ ?_
      clear hsz hdf s_2 s_3 s_6 s_8 s_9 s_13 s_14 s_75
      rintro a _ ⟨rfl, hsz, hdf, s_3, s_6, s_8, s_9, s_16⟩
      refine ow_then ?_
      refine wp_seq ?_
      refine wp_block ?_
      have hke : ¬ k < D.length := by have h := hb_37; rw [decide_eq_false_iff_not] at h; omega
      obtain ⟨V, hVe⟩ : ∃ V, V = addW next L seq D := ⟨_, rfl⟩
      have hVl : V.length = 2048 := by rw [hVe]; exact addW_len next L seq D
      have htl := toldN_le2 hVl
      have hyq6 := rW33_2
      rw [show k = D.length from by omega, List.take_length, show layW (fillW next win0 L) (diffv seq next) D = addW next L seq D from rfl, ← hVe] at hyq6
      have hyq9 := rW33_3
      rw [show k = D.length from by omega, List.take_length, show layW (fillW next win0 L) (diffv seq next) D = addW next L seq D from rfl, ← hVe] at hyq9
      refine ow_loop (fun N a W => ∃ (m : Nat), N = 2048 - m ∧ m ≤ toldN V ∧ a.tmps.size = 167 ∧ a.defers = [] ∧ a.tmps[3]? = some (.pointer (some ⟨q1, 0, none⟩)) ∧ a.tmps[6]? = some (.pointer (some ⟨q3, 0, none⟩)) ∧ a.tmps[8]? = some (.slice (some ⟨q6, 0, none⟩) 2049 2049) ∧ a.tmps[9]? = some (.slice (some ⟨q9, 0, none⟩) 2048 2048) ∧ a.tmps[16]? = some (.int .i64 ((m : Nat) : Int)) ∧ Below w.heap.size w W ∧ RowAt W q1 [.int .i64 next, .slice ao L.length cap] ∧ RowAt W q3 [.int .i64 0, .slice none 0 0] ∧ RowAt W q6 (hvRow V) ∧ RowAt W q9 (byRow V)) _ ⟨0, rfl, Nat.zero_le _, hsz, hdf, s_3, s_6, s_8, s_9, (by first | exact s_16 | (rw [s_16]; congr 2; first | rfl | omega | (push_cast; omega)) | (rw [s_16]; first | rfl | (simp; try omega))), hbW33, rW33_0, rW33_1, hyq6, hyq9⟩ ?_
      clear hsz hdf s_3 s_6 s_8 s_9 s_16
      rintro N a W50 ⟨m, rfl, hmt, hsz, hdf, s_3, s_6, s_8, s_9, s_16, hbW50, rW50_0, rW50_1, rW50_2, rW50_3⟩
      intro K52 hK52
      refine wp_seq ?_
      refine wp_seq ?_
      obtain ⟨bm, hbm⟩ := told_probe hVl hmt
      refine ow_region [_, _, _, _] rfl (by intro o ho; simp only [List.mem_cons, List.not_mem_nil, or_false] at ho; rcases ho with rfl | rfl | rfl | rfl <;> rfl) ?_
      refine ow_run 101 (.slice (some ⟨q6, 0, none⟩) 2049 2049) _ rfl (run_moveOp (eval_of s_8)) ?_
      refine ow_run 102 (.int .i64 ((m : Nat) : Int)) _ rfl (run_moveOp (eval_of (pf1 (by decide) s_16))) ?_
      refine ow_run 103 (.pointer (some ⟨q6, m, none⟩)) _ rfl (run_indexOp (eval_of (pf1 (by decide) (put_get _ _ _ (by rw [hsz]; decide)))) (eval_of (put_get _ _ _ (by simp only [put_size]; rw [hsz]; decide))) (idxBoolRow _ _ _ _ (by omega) _)) ?_
      refine ow_run 104 (.bool bm) _ rfl (run_loadOp (eval_of (put_get _ _ _ (by simp only [put_size]; rw [hsz]; decide))) (by simp [go_sem, Instr.loadAt, rW50_2.1 _ _ hbm.1])) ?_
      refine fresh (C := fun x W => wpRun _ [] x W _) (fun x X => _ = X ∧ x.tmps.size = 167 ∧ x.defers = [] ∧ x.tmps[3]? = some (.pointer (some ⟨q1, 0, none⟩)) ∧ x.tmps[6]? = some (.pointer (some ⟨q3, 0, none⟩)) ∧ x.tmps[8]? = some (.slice (some ⟨q6, 0, none⟩) 2049 2049) ∧ x.tmps[9]? = some (.slice (some ⟨q9, 0, none⟩) 2048 2048) ∧ x.tmps[16]? = some (.int .i64 ((m : Nat) : Int)) ∧ x.tmps[104]? = some (.bool bm)) ⟨rfl, (by simp only [put_size]; exact hsz), (by simp only [put_defers]; exact hdf), (pf4 (by decide) s_3), (pf4 (by decide) s_6), (pf4 (by decide) s_8), (pf4 (by decide) s_9), (pf4 (by decide) s_16), (put_get _ _ _ (by simp only [put_size]; rw [hsz]; decide))⟩ ?_
      clear hsz hdf s_3 s_6 s_8 s_9 s_16
      rintro a _ ⟨rfl, hsz, hdf, s_3, s_6, s_8, s_9, s_16, s_104⟩
      refine ow_then ?_
      rcases Bool.eq_false_or_eq_true (bm) with hb_54 | hb_54
      · skip
        refine ow_true (eval_of (flag_of s_104 hb_54)) ?_
        refine wp_skip ?_
        refine ow_then ?_
        refine wp_block ?_
        refine ow_region [_, _, _] rfl (by intro o ho; simp only [List.mem_cons, List.not_mem_nil, or_false] at ho; rcases ho with rfl | rfl | rfl <;> rfl) ?_
        refine ow_run 105 (.int .i64 ((m : Nat) : Int)) _ rfl (run_moveOp (eval_of s_16)) ?_
        refine ow_run 106 (.int .i64 (((m + 1) : Nat) : Int)) _ rfl (run_binOp (eval_of (put_get _ _ _ (by rw [hsz]; decide))) (eval_cst _ _) (by simp [go_sem]) (addIw _ _ _ _ (by omega) (by omega) (by omega))) ?_
        refine ow_run 16 (.int .i64 (((m + 1) : Nat) : Int)) _ rfl (run_assignOp (eval_of (put_get _ _ _ (by simp only [put_size]; rw [hsz]; decide)))) ?_
        refine fresh (C := fun x W => wpRun _ [] x W _) (fun x X => _ = X ∧ x.tmps.size = 167 ∧ x.defers = [] ∧ x.tmps[3]? = some (.pointer (some ⟨q1, 0, none⟩)) ∧ x.tmps[6]? = some (.pointer (some ⟨q3, 0, none⟩)) ∧ x.tmps[8]? = some (.slice (some ⟨q6, 0, none⟩) 2049 2049) ∧ x.tmps[9]? = some (.slice (some ⟨q9, 0, none⟩) 2048 2048) ∧ x.tmps[16]? = some (.int .i64 (((m + 1) : Nat) : Int))) ⟨rfl, (by simp only [put_size]; exact hsz), (by simp only [put_defers]; exact hdf), (pf1 (by decide) (pf2 (by decide) s_3)), (pf1 (by decide) (pf2 (by decide) s_6)), (pf1 (by decide) (pf2 (by decide) s_8)), (pf1 (by decide) (pf2 (by decide) s_9)), (put_get _ _ _ (by simp only [put_size]; rw [hsz]; decide))⟩ ?_
        clear hsz hdf s_3 s_6 s_8 s_9 s_104 s_16
        rintro a _ ⟨rfl, hsz, hdf, s_3, s_6, s_8, s_9, s_16⟩
        refine ow_blk _ ?_
        exact ow_then (hK52 _ _ _ (by have := hbm.2.1 hb_54; omega) ⟨(m + 1), rfl, hbm.2.1 hb_54, hsz, hdf, s_3, s_6, s_8, s_9, (by first | exact s_16 | (rw [s_16]; congr 2; first | rfl | omega | (push_cast; omega)) | (rw [s_16]; first | rfl | (simp; try omega))), hbW50, rW50_0, rW50_1, rW50_2, rW50_3⟩)
      · skip
        refine ow_false (eval_of (flag_of s_104 hb_54)) ?_
        refine wp_exit ?_
        refine ow_then_exit ?_
        refine ow_then_exit ?_
        refine ow_blk_exit _ ?_
        refine ow_then ?_
        refine wp_seq ?_
        refine ow_region [_] rfl (by intro o ho; simp only [List.mem_cons, List.not_mem_nil, or_false] at ho; subst ho; rfl) ?_
        refine ow_run 17 (.slice none 0 0) _ rfl (run_assignOp (eval_cst _ _)) ?_
        refine fresh (C := fun x W => wpRun _ [] x W _) (fun x X => _ = X ∧ x.tmps.size = 167 ∧ x.defers = [] ∧ x.tmps[3]? = some (.pointer (some ⟨q1, 0, none⟩)) ∧ x.tmps[6]? = some (.pointer (some ⟨q3, 0, none⟩)) ∧ x.tmps[8]? = some (.slice (some ⟨q6, 0, none⟩) 2049 2049) ∧ x.tmps[9]? = some (.slice (some ⟨q9, 0, none⟩) 2048 2048) ∧ x.tmps[16]? = some (.int .i64 ((m : Nat) : Int)) ∧ x.tmps[17]? = some (.slice none 0 0)) ⟨rfl, (by simp only [put_size]; exact hsz), (by simp only [put_defers]; exact hdf), (pf1 (by decide) s_3), (pf1 (by decide) s_6), (pf1 (by decide) s_8), (pf1 (by decide) s_9), (pf1 (by decide) s_16), (put_get _ _ _ (by rw [hsz]; decide))⟩ ?_
        clear hsz hdf s_3 s_6 s_8 s_9 s_104 s_16
        rintro a _ ⟨rfl, hsz, hdf, s_3, s_6, s_8, s_9, s_16, s_17⟩
        refine ow_then ?_
        refine wp_seq ?_
        refine wp_seq ?_
        refine ow_region [_, _] rfl (by intro o ho; simp only [List.mem_cons, List.not_mem_nil, or_false] at ho; rcases ho with rfl | rfl <;> rfl) ?_
        refine ow_run 107 (.int .i64 ((m : Nat) : Int)) _ rfl (run_moveOp (eval_of s_16)) ?_
        refine ow_run 18 (.int .i64 ((m : Nat) : Int)) _ rfl (run_assignOp (eval_of (put_get _ _ _ (by rw [hsz]; decide)))) ?_
        refine fresh (C := fun x W => wpRun _ [] x W _) (fun x X => _ = X ∧ x.tmps.size = 167 ∧ x.defers = [] ∧ x.tmps[3]? = some (.pointer (some ⟨q1, 0, none⟩)) ∧ x.tmps[6]? = some (.pointer (some ⟨q3, 0, none⟩)) ∧ x.tmps[8]? = some (.slice (some ⟨q6, 0, none⟩) 2049 2049) ∧ x.tmps[9]? = some (.slice (some ⟨q9, 0, none⟩) 2048 2048) ∧ x.tmps[16]? = some (.int .i64 ((m : Nat) : Int)) ∧ x.tmps[17]? = some (.slice none 0 0) ∧ x.tmps[18]? = some (.int .i64 ((m : Nat) : Int))) ⟨rfl, (by simp only [put_size]; exact hsz), (by simp only [put_defers]; exact hdf), (pf2 (by decide) s_3), (pf2 (by decide) s_6), (pf2 (by decide) s_8), (pf2 (by decide) s_9), (pf2 (by decide) s_16), (pf2 (by decide) s_17), (put_get _ _ _ (by simp only [put_size]; rw [hsz]; decide))⟩ ?_
        clear hsz hdf s_3 s_6 s_8 s_9 s_16 s_17
        rintro a _ ⟨rfl, hsz, hdf, s_3, s_6, s_8, s_9, s_16, s_17, s_18⟩
        refine ow_then ?_
        refine wp_block ?_
        have hlo3 : q1 < (q9 + 1) := by omega
        have hlo6 : q3 < (q9 + 1) := by omega
        have hloh : q6 < (q9 + 1) := by omega
        have hlob : q9 < (q9 + 1) := by omega
        obtain rfl : m = toldN V := hbm.2.2 hb_54
        refine ow_loop (fun N a W => ∃ (i : Nat) (al : Option Addr) (cl : Nat) (PL : List (EP × Value)), N = 2048 - i ∧ toldN V ≤ i ∧ i ≤ 2048 ∧ PL.map Prod.fst = (partsL V i).map (toP next) ∧ a.tmps.size = 167 ∧ a.defers = [] ∧ a.tmps[3]? = some (.pointer (some ⟨q1, 0, none⟩)) ∧ a.tmps[6]? = some (.pointer (some ⟨q3, 0, none⟩)) ∧ a.tmps[8]? = some (.slice (some ⟨q6, 0, none⟩) 2049 2049) ∧ a.tmps[9]? = some (.slice (some ⟨q9, 0, none⟩) 2048 2048) ∧ a.tmps[16]? = some (.int .i64 (((toldN V) : Nat) : Int)) ∧ a.tmps[17]? = some (.slice al PL.length cl) ∧ a.tmps[18]? = some (.int .i64 ((i : Nat) : Int)) ∧ Below w.heap.size w W ∧ RowAt W q1 [.int .i64 next, .slice ao L.length cap] ∧ RowAt W q3 [.int .i64 0, .slice none 0 0] ∧ RowAt W q6 (hvRow V) ∧ RowAt W q9 (byRow V) ∧ DOwn KPart 58 W (q9 + 1) (.slice al PL.length cl) PL) _ ⟨(toldN V), none, 0, [], rfl, Nat.le_refl _, htl, by rw [parts_told (Nat.le_refl _)]; rfl, hsz, hdf, s_3, s_6, s_8, s_9, s_16, (by first | exact s_17 | (rw [s_17]; congr 2; first | rfl | omega | (push_cast; omega)) | (rw [s_17]; first | rfl | (simp; try omega))), (by first | exact s_18 | (rw [s_18]; congr 2; first | rfl | omega | (push_cast; omega)) | (rw [s_18]; first | rfl | (simp; try omega))), hbW50, rW50_0, rW50_1, rW50_2, rW50_3, DOwn.nil _ _ _ _⟩ ?_
        clear hsz hdf s_3 s_6 s_8 s_9 s_16 s_17 s_18
        rintro N a W58 ⟨i, al, cl, PL, rfl, hti, hi2, hPL, hsz, hdf, s_3, s_6, s_8, s_9, s_16, s_17, s_18, hbW58, rW58_0, rW58_1, rW58_2, rW58_3, gW58_0⟩
        intro K60 hK60
        refine wp_seq ?_
        refine wp_seq ?_
        refine ow_region [_, _] rfl (by intro o ho; simp only [List.mem_cons, List.not_mem_nil, or_false] at ho; rcases ho with rfl | rfl <;> rfl) ?_
        refine ow_run 108 (.int .i64 ((i : Nat) : Int)) _ rfl (run_moveOp (eval_of s_18)) ?_
        refine ow_run 109 (.bool (decide (((i : Nat) : Int) < 2048))) _ rfl (run_binOp (eval_of (put_get _ _ _ (by rw [hsz]; decide))) (eval_cst _ _) (by simp [go_sem]) (lssIw _ _ _)) ?_
        refine fresh (C := fun x W => wpRun _ [] x W _) (fun x X => _ = X ∧ x.tmps.size = 167 ∧ x.defers = [] ∧ x.tmps[3]? = some (.pointer (some ⟨q1, 0, none⟩)) ∧ x.tmps[6]? = some (.pointer (some ⟨q3, 0, none⟩)) ∧ x.tmps[8]? = some (.slice (some ⟨q6, 0, none⟩) 2049 2049) ∧ x.tmps[9]? = some (.slice (some ⟨q9, 0, none⟩) 2048 2048) ∧ x.tmps[16]? = some (.int .i64 (((toldN V) : Nat) : Int)) ∧ x.tmps[17]? = some (.slice al PL.length cl) ∧ x.tmps[18]? = some (.int .i64 ((i : Nat) : Int)) ∧ x.tmps[109]? = some (.bool (decide (((i : Nat) : Int) < 2048)))) ⟨rfl, (by simp only [put_size]; exact hsz), (by simp only [put_defers]; exact hdf), (pf2 (by decide) s_3), (pf2 (by decide) s_6), (pf2 (by decide) s_8), (pf2 (by decide) s_9), (pf2 (by decide) s_16), (pf2 (by decide) s_17), (pf2 (by decide) s_18), (put_get _ _ _ (by simp only [put_size]; rw [hsz]; decide))⟩ ?_
        clear hsz hdf s_3 s_6 s_8 s_9 s_16 s_17 s_18
        rintro a _ ⟨rfl, hsz, hdf, s_3, s_6, s_8, s_9, s_16, s_17, s_18, s_109⟩
        refine ow_then ?_
        rcases Bool.eq_false_or_eq_true ((decide (((i : Nat) : Int) < 2048))) with hb_62 | hb_62
        · skip
          refine ow_true (eval_of (flag_of s_109 hb_62)) ?_
          refine wp_skip ?_
          refine ow_then ?_
          refine wp_seq ?_
          refine wp_block ?_
          refine wp_seq ?_
          refine wp_seq ?_
          have hi3 : i < 2048 := by have h := hb_62; rw [decide_eq_true_eq] at h; omega
          obtain ⟨xv, hx⟩ : ∃ x, V[i]? = some x := ⟨_, List.getElem?_eq_getElem (by rw [hVl]; exact hi3)⟩
          refine ow_region [_, _, _, _, _] rfl (by intro o ho; simp only [List.mem_cons, List.not_mem_nil, or_false] at ho; rcases ho with rfl | rfl | rfl | rfl | rfl <;> rfl) ?_
          refine ow_run 112 (.slice (some ⟨q6, 0, none⟩) 2049 2049) _ rfl (run_moveOp (eval_of s_8)) ?_
          refine ow_run 113 (.int .i64 ((i : Nat) : Int)) _ rfl (run_moveOp (eval_of (pf1 (by decide) s_18))) ?_
          refine ow_run 114 (.pointer (some ⟨q6, i, none⟩)) _ rfl (run_indexOp (eval_of (pf1 (by decide) (put_get _ _ _ (by rw [hsz]; decide)))) (eval_of (put_get _ _ _ (by simp only [put_size]; rw [hsz]; decide))) (idxBoolRow _ _ _ _ (by omega) _)) ?_
          refine ow_run 115 (.bool (isS xv)) _ rfl (run_loadOp (eval_of (put_get _ _ _ (by simp only [put_size]; rw [hsz]; decide))) (by simp [go_sem, Instr.loadAt, rW58_2.1 _ _ (hv_get hx)])) ?_
          refine ow_run 116 (.bool (!(isS xv))) _ rfl (run_notOp (eval_of (put_get _ _ _ (by simp only [put_size]; rw [hsz]; decide)))) ?_
          refine fresh (C := fun x W => wpRun _ [] x W _) (fun x X => _ = X ∧ x.tmps.size = 167 ∧ x.defers = [] ∧ x.tmps[3]? = some (.pointer (some ⟨q1, 0, none⟩)) ∧ x.tmps[6]? = some (.pointer (some ⟨q3, 0, none⟩)) ∧ x.tmps[8]? = some (.slice (some ⟨q6, 0, none⟩) 2049 2049) ∧ x.tmps[9]? = some (.slice (some ⟨q9, 0, none⟩) 2048 2048) ∧ x.tmps[16]? = some (.int .i64 (((toldN V) : Nat) : Int)) ∧ x.tmps[17]? = some (.slice al PL.length cl) ∧ x.tmps[18]? = some (.int .i64 ((i : Nat) : Int)) ∧ x.tmps[116]? = some (.bool (!(isS xv)))) ⟨rfl, (by simp only [put_size]; exact hsz), (by simp only [put_defers]; exact hdf), (pf1 (by decide) (pf4 (by decide) s_3)), (pf1 (by decide) (pf4 (by decide) s_6)), (pf1 (by decide) (pf4 (by decide) s_8)), (pf1 (by decide) (pf4 (by decide) s_9)), (pf1 (by decide) (pf4 (by decide) s_16)), (pf1 (by decide) (pf4 (by decide) s_17)), (pf1 (by decide) (pf4 (by decide) s_18)), (put_get _ _ _ (by simp only [put_size]; rw [hsz]; decide))⟩ ?_
          clear hsz hdf s_3 s_6 s_8 s_9 s_109 s_16 s_17 s_18
          rintro a _ ⟨rfl, hsz, hdf, s_3, s_6, s_8, s_9, s_16, s_17, s_18, s_116⟩
          refine ow_then ?_
          rcases Bool.eq_false_or_eq_true ((isS xv)) with hb_64 | hb_64
          · skip
            refine ow_false (eval_of (flag_of s_116 (not_of hb_64))) ?_
            refine wp_skip ?_
            refine ow_then ?_
            refine wp_seq ?_
            refine wp_seq ?_
            obtain ⟨b, rfl⟩ : ∃ b, xv = some b := by cases xv with | none => exact absurd hb_64 (by simp [isS]) | some b => exact ⟨b, rfl⟩
            have hVb := hx
            rcases Bool.eq_false_or_eq_true ((((i : Nat) : Int) == 0)) with hb_65 | hb_65
            · skip
              refine owl_region [_, _, _, _, _, _, _, _, _, _] rfl ?_
              refine owl_run (wanted_none rfl) 117 (.int .i64 ((i : Nat) : Int)) _ rfl (run_moveOp (eval_of s_18)) ?_
              refine owl_run (wanted_none rfl) 118 (.bool true) _ rfl (run_binOp (eval_of (put_get _ _ _ (by rw [hsz]; decide))) (eval_cst _ _) (eqIntI _ _ _ _ _ _ _) (eqlIb _ _ _ true hb_65)) ?_
              refine owl_run (wanted_none rfl) 119 (.bool true) _ rfl (run_moveOp (eval_of (put_get _ _ _ (by simp only [put_size]; rw [hsz]; decide)))) ?_
              refine owg_no 2 119 false true rfl (by kernel_rfl) (put_get _ _ _ (by simp only [put_size]; rw [hsz]; decide)) (by decide) 120 rfl ?_
              refine owg_no 2 119 false true rfl (by kernel_rfl) (pf1 (by decide) (put_get _ _ _ (by simp only [put_size]; rw [hsz]; decide))) (by decide) 121 rfl ?_
              refine owg_no 2 119 false true rfl (by kernel_rfl) (pf2 (by decide) (put_get _ _ _ (by simp only [put_size]; rw [hsz]; decide))) (by decide) 122 rfl ?_
              refine owg_no 2 119 false true rfl (by kernel_rfl) (pf1 (by decide) (pf2 (by decide) (put_get _ _ _ (by simp only [put_size]; rw [hsz]; decide)))) (by decide) 123 rfl ?_
              refine owg_no 2 119 false true rfl (by kernel_rfl) (pf4 (by decide) (put_get _ _ _ (by simp only [put_size]; rw [hsz]; decide))) (by decide) 124 rfl ?_
              refine owg_no 2 119 false true rfl (by kernel_rfl) (pf1 (by decide) (pf4 (by decide) (put_get _ _ _ (by simp only [put_size]; rw [hsz]; decide)))) (by decide) 125 rfl ?_
              refine owl_run (wanted_none rfl) 126 (.bool true) _ rfl (run_pickT (eval_of (pf2 (by decide) (pf4 (by decide) (put_get _ _ _ (by simp only [put_size]; rw [hsz]; decide))))) (eval_cst _ _)) ?_
              refine fresh (C := fun x W => WL _ _ _ [] x W) (fun x X => _ = X ∧ x.tmps.size = 167 ∧ x.defers = [] ∧ x.tmps[3]? = some (.pointer (some ⟨q1, 0, none⟩)) ∧ x.tmps[6]? = some (.pointer (some ⟨q3, 0, none⟩)) ∧ x.tmps[8]? = some (.slice (some ⟨q6, 0, none⟩) 2049 2049) ∧ x.tmps[9]? = some (.slice (some ⟨q9, 0, none⟩) 2048 2048) ∧ x.tmps[16]? = some (.int .i64 (((toldN V) : Nat) : Int)) ∧ x.tmps[17]? = some (.slice al PL.length cl) ∧ x.tmps[18]? = some (.int .i64 ((i : Nat) : Int)) ∧ x.tmps[126]? = some (.bool true)) ⟨rfl, (by simp only [put_size]; exact hsz), (by simp only [put_defers]; exact hdf), (pf2 (by decide) (pf8 (by decide) s_3)), (pf2 (by decide) (pf8 (by decide) s_6)), (pf2 (by decide) (pf8 (by decide) s_8)), (pf2 (by decide) (pf8 (by decide) s_9)), (pf2 (by decide) (pf8 (by decide) s_16)), (pf2 (by decide) (pf8 (by decide) s_17)), (pf2 (by decide) (pf8 (by decide) s_18)), (put_get _ _ _ (by simp only [put_size]; rw [hsz]; decide))⟩ ?_
              clear hsz hdf s_3 s_6 s_8 s_9 s_16 s_17 s_18 s_116
              rintro a _ ⟨rfl, hsz, hdf, s_3, s_6, s_8, s_9, s_16, s_17, s_18, s_126⟩
              refine wl_done ?_
              refine ow_then ?_
              refine ow_true (eval_of s_126) ?_
              have hnew : partsL V (i + 1) = partsL V i ++ [(i, [b])] := parts_first hti hx (.inl (by have h := hb_65; simpa using h))
              refine ow_region [_, _, _, _, _, _, _, _, _] rfl (by intro o ho; simp only [List.mem_cons, List.not_mem_nil, or_false] at ho; rcases ho with rfl | rfl | rfl | rfl | rfl | rfl | rfl | rfl | rfl <;> rfl) ?_
              refine ow_run 127 (.slice al PL.length cl) _ rfl (run_moveOp (eval_of s_17)) ?_
              refine ow_run 128 (.pointer (some ⟨q1, 0, none⟩)) _ rfl (run_fieldAddr (eval_of (pf1 (by decide) s_3)) (by simp [go_sem, Instr.fieldAt])) ?_
              refine ow_run 129 (.int .i64 next) _ rfl (run_loadOp (eval_of (put_get _ _ _ (by simp only [put_size]; rw [hsz]; decide))) (by simp [go_sem, Instr.loadAt, rW58_0.cell (j := 0) rfl])) ?_
              refine ow_run 130 (.int .i64 ((i : Nat) : Int)) _ rfl (run_moveOp (eval_of (pf1 (by decide) (pf2 (by decide) s_18)))) ?_
              refine ow_call 131 (fun v X => v = (.int .i64 (addv next ((i : Nat) : Int))) ∧ W58 = X) rfl _ _ (run_callOp Try.func18 rfl rfl (arr2 (eval_of (pf1 (by decide) (put_get _ _ _ (by simp only [put_size]; rw [hsz]; decide)))) (eval_of (put_get _ _ _ (by simp only [put_size]; rw [hsz]; decide))))) (((radd12_any next ((i : Nat) : Int) W58)).mono fun e X h => ⟨_, h.1, rfl, h.2⟩) ?_
              rintro _ _ ⟨rfl, rfl⟩
              refine ow_run 132 (.agg #[.int .i64 (addv next ((i : Nat) : Int)), .slice none 0 0]) _ rfl (run_buildOp (bp1 (eval_of (put_get _ _ _ (by simp only [put_size]; rw [hsz]; decide)))) (by first | rfl | kernel_rfl)) ?_
              obtain ⟨q67, hq67⟩ : ∃ x, x = W58.heap.size := ⟨_, rfl⟩
              refine ow_run 133 (.slice (some ⟨q67, 0, none⟩) 1 1) (W58.alloc (.cells (([.int .i64 (addv next ((i : Nat) : Int)), .slice none 0 0] : List Value)).toArray 58)) rfl (by rw [hq67]; exact (bsPart _ (eval_of (put_get _ _ _ (by simp only [put_size]; rw [hsz]; decide))))) ?_
              have hqq67 : w.heap.size ≤ q67 := by rw [hq67]; exact hbW58.size
              have hyq67_par : ∀ k, DBlk (.slice al PL.length cl) PL k → k < q67 := fun k hk => by have := (dblk_lt gW58_0 hk).2; omega
              have hnq67_q1 : q1 < q67 := by rw [hq67]; exact rW58_0.2.2
              have hnq67_q3 : q3 < q67 := by rw [hq67]; exact rW58_1.2.2
              have hnq67_q6 : q6 < q67 := by rw [hq67]; exact rW58_2.2.2
              have hnq67_q9 : q9 < q67 := by rw [hq67]; exact rW58_3.2.2
              refine fresh (C := fun x W => wpRun _ _ x W _) (fun x X => _ = x ∧ Below w.heap.size w X ∧ RowAt X q1 [.int .i64 next, .slice ao L.length cap] ∧ RowAt X q3 [.int .i64 0, .slice none 0 0] ∧ RowAt X q6 (hvRow V) ∧ RowAt X q9 (byRow V) ∧ RowAt X q67 ([.int .i64 (addv next ((i : Nat) : Int)), .slice none 0 0] : List Value) ∧ DOwn KPart 58 X (q9 + 1) (.slice al PL.length cl) PL) ⟨rfl, (hbW58.alloc hbW58.size _), (rW58_0.below ((Below.refl _ W58).alloc (Nat.le_refl _) _)), (rW58_1.below ((Below.refl _ W58).alloc (Nat.le_refl _) _)), (rW58_2.below ((Below.refl _ W58).alloc (Nat.le_refl _) _)), (rW58_3.below ((Below.refl _ W58).alloc (Nat.le_refl _) _)), (by rw [hq67]; exact rowAt_alloc _ (([.int .i64 (addv next ((i : Nat) : Int)), .slice none 0 0] : List Value)) _), (gW58_0.below ((Below.refl _ W58).alloc (Nat.le_refl _) _))⟩ ?_
              rintro _ W68 ⟨rfl, hbW68, rW68_0, rW68_1, rW68_2, rW68_3, rW68_4, fW68_0⟩
              clear hq67
              have hb27 : (q9 + 1) ≤ W68.heap.size := rW68_3.2.2
              have hl27 := partsL_le hPL hi2
              refine ow_to 134 rfl (opTo_part _ _ rfl (eval_of (pf2 (by decide) (pf4 (by decide) (put_get _ _ _ (by rw [hsz]; decide))))) fW68_0.row (eval_of (put_get _ _ _ (by simp only [put_size]; rw [hsz]; decide))) rW68_4 rfl (by omega) hb27) ?_
              rintro vl2 V69 ⟨hgr, hog⟩
              obtain ⟨PLm, hPLm⟩ : ∃ P, P = PL ++ [((⟨addv next ((i : Nat) : Int), []⟩ : EP), (.slice none 0 0 : Value))] := ⟨_, rfl⟩
              have hlm : PL.length + 1 = PLm.length := by rw [hPLm]; simp
              have hpar2 := DOwn.snoc (a := (⟨addv next ((i : Nat) : Int), []⟩ : EP)) fW68_0 hb27 (Below.refl _ _) (World.ownsRow_nil _ _ _ _) hog hgr
              rw [← hPLm] at hpar2
              rw [hlm] at hog
              obtain ⟨al2, cl2, rfl⟩ := own_slice hog
              have hk_q1 : some q1 ≠ (.slice al PL.length cl : Value).ownBlock := fun e => by have := (blk_lt fW68_0.row e.symm).1; omega
              have hk_q3 : some q3 ≠ (.slice al PL.length cl : Value).ownBlock := fun e => by have := (blk_lt fW68_0.row e.symm).1; omega
              have hk_q6 : some q6 ≠ (.slice al PL.length cl : Value).ownBlock := fun e => by have := (blk_lt fW68_0.row e.symm).1; omega
              have hk_q9 : some q9 ≠ (.slice al PL.length cl : Value).ownBlock := fun e => by have := (blk_lt fW68_0.row e.symm).1; omega
              have hA : PLm = PL ++ [((⟨addv next ((i : Nat) : Int), []⟩ : EP), (.slice none 0 0 : Value))] := hPLm
              obtain ⟨A, hAe⟩ : ∃ A, A = PL := ⟨_, rfl⟩
              rw [← hAe] at hA
              obtain ⟨s0, hs0⟩ : ∃ s, s = addv next ((i : Nat) : Int) := ⟨_, rfl⟩
              obtain ⟨d0, hd0⟩ : ∃ d : List UInt8, d = [] := ⟨_, rfl⟩
              obtain ⟨vd0, hvd0⟩ : ∃ v : Value, v = .slice none 0 0 := ⟨_, rfl⟩
              rw [← hs0, ← hd0, ← hvd0] at hA
              have hstep : PLm.map Prod.fst = (partsL V i).map (toP next) ++ [⟨s0, d0⟩] := by rw [hA, List.map_append, hAe, hPL]; rfl
              have hnext : (partsL V (i + 1)).map (toP next) = (partsL V i).map (toP next) ++ [⟨s0, d0 ++ [b]⟩] := by rw [hnew, List.map_append, hs0, hd0]; rfl
              refine fresh (C := fun x W => wpRun _ _ x W _) (fun x X => _ = x ∧ Below w.heap.size w X ∧ RowAt X q1 [.int .i64 next, .slice ao L.length cap] ∧ RowAt X q3 [.int .i64 0, .slice none 0 0] ∧ RowAt X q6 (hvRow V) ∧ RowAt X q9 (byRow V) ∧ DOwn KPart 58 X (q9 + 1) (.slice al2 PLm.length cl2) PLm) ⟨rfl, (hbW68.trans ((grew_below hgr hb27 (fun k hk => (blk_lt fW68_0.row hk).1)).mono (by omega))), (rowAt_keep rW68_0 hgr.1 hk_q1), (rowAt_keep rW68_1 hgr.1 hk_q3), (rowAt_keep rW68_2 hgr.1 hk_q6), (rowAt_keep rW68_3 hgr.1 hk_q9), hpar2⟩ ?_
              rintro _ W70 ⟨rfl, hbW70, rW70_0, rW70_1, rW70_2, rW70_3, fW70_0⟩
              refine ow_run 17 (.slice al2 PLm.length cl2) _ rfl (run_assignOp (eval_of (put_get _ _ _ (by simp only [put_size]; rw [hsz]; decide)))) ?_
              refine fresh (C := fun x W => wpRun _ [] x W _) (fun x X => _ = X ∧ x.tmps.size = 167 ∧ x.defers = [] ∧ x.tmps[3]? = some (.pointer (some ⟨q1, 0, none⟩)) ∧ x.tmps[6]? = some (.pointer (some ⟨q3, 0, none⟩)) ∧ x.tmps[8]? = some (.slice (some ⟨q6, 0, none⟩) 2049 2049) ∧ x.tmps[9]? = some (.slice (some ⟨q9, 0, none⟩) 2048 2048) ∧ x.tmps[16]? = some (.int .i64 (((toldN V) : Nat) : Int)) ∧ x.tmps[17]? = some (.slice al2 PLm.length cl2) ∧ x.tmps[18]? = some (.int .i64 ((i : Nat) : Int))) ⟨rfl, (by simp only [put_size]; exact hsz), (by simp only [put_defers]; exact hdf), (pf1 (by decide) (pf8 (by decide) s_3)), (pf1 (by decide) (pf8 (by decide) s_6)), (pf1 (by decide) (pf8 (by decide) s_8)), (pf1 (by decide) (pf8 (by decide) s_9)), (pf1 (by decide) (pf8 (by decide) s_16)), (put_get _ _ _ (by simp only [put_size]; rw [hsz]; decide)), (pf1 (by decide) (pf8 (by decide) s_18))⟩ ?_
              clear hsz hdf s_3 s_6 s_8 s_9 s_16 s_17 s_18 s_126
              rintro a _ ⟨rfl, hsz, hdf, s_3, s_6, s_8, s_9, s_16, s_17, s_18⟩
              refine ow_then ?_
              refine wp_seq ?_
              have hApre : A.map Prod.fst ++ [⟨s0, d0 ++ [b]⟩] = (partsL V (i + 1)).map (toP next) := by rw [hnext, hAe, hPL]
              have hPLfin : A.map Prod.fst ++ [⟨s0, d0 ++ [b]⟩] = (partsL V (i + 1)).map (toP next) := hApre
              have hAl : PLm.length = A.length + 1 := by rw [hA]; simp
              have hpq := fW70_0
              rw [hA] at hpq
              obtain ⟨g, hal2⟩ := own_some hpq
              refine ow_region [_, _, _, _, _, _] rfl (by intro o ho; simp only [List.mem_cons, List.not_mem_nil, or_false] at ho; rcases ho with rfl | rfl | rfl | rfl | rfl | rfl <;> rfl) ?_
              refine ow_run 135 (.slice al2 PLm.length cl2) _ rfl (run_moveOp (eval_of s_17)) ?_
              refine ow_run 136 (.slice al2 PLm.length cl2) _ rfl (run_moveOp (eval_of (pf1 (by decide) s_17))) ?_
              refine ow_run 137 (.int .i64 ((PLm.length : Nat) : Int)) _ rfl (run_lenOp Try.underlying22 (eval_of (put_get _ _ _ (by simp only [put_size]; rw [hsz]; decide)))) ?_
              refine ow_run 138 (.int .i64 ((A.length : Nat) : Int)) _ rfl (run_binOp (eval_of (put_get _ _ _ (by simp only [put_size]; rw [hsz]; decide))) (eval_cst _ _) (by simp [go_sem]) (subIw _ _ _ _ (by omega) (by omega) (by omega))) ?_
              refine ow_run 139 (.pointer (some ⟨g, (A.length * 2), none⟩)) _ rfl (run_indexOp (eval_of (pf1 (by decide) (pf2 (by decide) (put_get _ _ _ (by rw [hsz]; decide))))) (eval_of (put_get _ _ _ (by simp only [put_size]; rw [hsz]; decide))) (idxPart0 hal2 (by omega) _)) ?_
              refine ow_run 19 (.pointer (some ⟨g, (A.length * 2), none⟩)) _ rfl (run_assignOp (eval_of (put_get _ _ _ (by simp only [put_size]; rw [hsz]; decide)))) ?_
              refine fresh (C := fun x W => wpRun _ [] x W _) (fun x X => _ = X ∧ x.tmps.size = 167 ∧ x.defers = [] ∧ x.tmps[3]? = some (.pointer (some ⟨q1, 0, none⟩)) ∧ x.tmps[6]? = some (.pointer (some ⟨q3, 0, none⟩)) ∧ x.tmps[8]? = some (.slice (some ⟨q6, 0, none⟩) 2049 2049) ∧ x.tmps[9]? = some (.slice (some ⟨q9, 0, none⟩) 2048 2048) ∧ x.tmps[16]? = some (.int .i64 (((toldN V) : Nat) : Int)) ∧ x.tmps[17]? = some (.slice al2 PLm.length cl2) ∧ x.tmps[18]? = some (.int .i64 ((i : Nat) : Int)) ∧ x.tmps[19]? = some (.pointer (some ⟨g, (A.length * 2), none⟩))) ⟨rfl, (by simp only [put_size]; exact hsz), (by simp only [put_defers]; exact hdf), (pf2 (by decide) (pf4 (by decide) s_3)), (pf2 (by decide) (pf4 (by decide) s_6)), (pf2 (by decide) (pf4 (by decide) s_8)), (pf2 (by decide) (pf4 (by decide) s_9)), (pf2 (by decide) (pf4 (by decide) s_16)), (pf2 (by decide) (pf4 (by decide) s_17)), (pf2 (by decide) (pf4 (by decide) s_18)), (put_get _ _ _ (by simp only [put_size]; rw [hsz]; decide))⟩ ?_
              clear hsz hdf s_3 s_6 s_8 s_9 s_16 s_17 s_18
              rintro a _ ⟨rfl, hsz, hdf, s_3, s_6, s_8, s_9, s_16, s_17, s_18, s_19⟩
              refine ow_then ?_
              refine ah_region (fun W => Below w.heap.size w W ∧ RowAt W q1 [.int .i64 next, .slice ao L.length cap] ∧ RowAt W q3 [.int .i64 0, .slice none 0 0] ∧ RowAt W q6 (hvRow V) ∧ RowAt W q9 (byRow V)) (by kernel_rfl) 14 rfl ?_
              refine fresh (C := fun x W => AH _ _ _ _ _ _ x W) (fun x X => _ = x ∧ Below w.heap.size w X ∧ RowAt X q1 [.int .i64 next, .slice ao L.length cap] ∧ RowAt X q3 [.int .i64 0, .slice none 0 0] ∧ RowAt X q6 (hvRow V) ∧ RowAt X q9 (byRow V) ∧ DOwn KPart 58 X (q9 + 1) (.slice al2 PLm.length cl2) PLm) ⟨rfl, (hbW70.trans (((Below.refl _ W70).drew).mono hbW70.size)), (rW70_0.below ((Below.refl _ W70).drew)), (rW70_1.below ((Below.refl _ W70).drew)), (rW70_2.below ((Below.refl _ W70).drew)), (rW70_3.below ((Below.refl _ W70).drew)), (fW70_0.below ((Below.refl _ W70).drew))⟩ ?_
              rintro _ W73 ⟨rfl, hbW73, rW73_0, rW73_1, rW73_2, rW73_3, fW73_0⟩
              refine ah_takeW 0 140 (.pointer (some ⟨g, (A.length * 2), none⟩)) rfl (wanted_none rfl) rfl (by kernel_rfl) (by kernel_rfl) (by kernel_rfl) (fun _ _ _ h => h) ⟨hbW73, rW73_0, rW73_1, rW73_2, rW73_3⟩ (fun W hW => by (try obtain ⟨hbW73, rW73_0, rW73_1, rW73_2, rW73_3⟩ := hW); exact (run_moveOp (eval_of s_19))) ?_
              refine ah_takeW 1 141 (.pointer (some ⟨g, (A.length * 2), none⟩)) rfl (wanted_none rfl) rfl (by kernel_rfl) (by kernel_rfl) (by kernel_rfl) (fun _ _ _ h => h) ⟨hbW73, rW73_0, rW73_1, rW73_2, rW73_3⟩ (fun W hW => by (try obtain ⟨hbW73, rW73_0, rW73_1, rW73_2, rW73_3⟩ := hW); exact (run_moveOp (eval_of (pf1 (by decide) s_19)))) ?_
              refine ah_takeW 2 142 (.pointer (some ⟨g, (A.length * 2), none⟩)) rfl (wanted_none rfl) rfl (by kernel_rfl) (by kernel_rfl) (by kernel_rfl) (fun _ _ _ h => h) ⟨hbW73, rW73_0, rW73_1, rW73_2, rW73_3⟩ (fun W hW => by (try obtain ⟨hbW73, rW73_0, rW73_1, rW73_2, rW73_3⟩ := hW); exact (run_nilOp (eval_of (put_get _ _ _ (by simp only [put_size]; rw [hsz]; decide))))) ?_
              refine ah_takeW 3 143 (.pointer (some ⟨g, ((A.length * 2) + 1), none⟩)) rfl (wanted_none rfl) rfl (by kernel_rfl) (by kernel_rfl) (by kernel_rfl) (fun _ _ _ h => h) ⟨hbW73, rW73_0, rW73_1, rW73_2, rW73_3⟩ (fun W hW => by (try obtain ⟨hbW73, rW73_0, rW73_1, rW73_2, rW73_3⟩ := hW); exact (run_fieldAddr (eval_of (put_get _ _ _ (by simp only [put_size]; rw [hsz]; decide))) (by simp [go_sem, Instr.fieldAt]))) ?_
              refine ah_takeW 5 145 (.slice (some ⟨q9, 0, none⟩) 2048 2048) rfl (wanted_none rfl) rfl (by kernel_rfl) (by kernel_rfl) (by kernel_rfl) (fun _ _ _ h => h) ⟨hbW73, rW73_0, rW73_1, rW73_2, rW73_3⟩ (fun W hW => by (try obtain ⟨hbW73, rW73_0, rW73_1, rW73_2, rW73_3⟩ := hW); exact (run_moveOp (eval_of (pf4 (by decide) s_9)))) ?_
              refine ah_takeW 6 146 (.int .i64 ((i : Nat) : Int)) rfl (wanted_none rfl) rfl (by kernel_rfl) (by kernel_rfl) (by kernel_rfl) (fun _ _ _ h => h) ⟨hbW73, rW73_0, rW73_1, rW73_2, rW73_3⟩ (fun W hW => by (try obtain ⟨hbW73, rW73_0, rW73_1, rW73_2, rW73_3⟩ := hW); exact (run_moveOp (eval_of (pf1 (by decide) (pf4 (by decide) s_18))))) ?_
              refine ah_takeW 7 147 (.pointer (some ⟨q9, i, none⟩)) rfl (wanted_none rfl) rfl (by kernel_rfl) (by kernel_rfl) (by kernel_rfl) (fun _ _ _ h => h) ⟨hbW73, rW73_0, rW73_1, rW73_2, rW73_3⟩ (fun W hW => by (try obtain ⟨hbW73, rW73_0, rW73_1, rW73_2, rW73_3⟩ := hW); exact (run_indexOp (eval_of (pf1 (by decide) (put_get _ _ _ (by simp only [put_size]; rw [hsz]; decide)))) (eval_of (put_get _ _ _ (by simp only [put_size]; rw [hsz]; decide))) (idxByteRow _ _ _ _ (by omega) _))) ?_
              refine ah_takeW 8 148 (.int .u8 (b.toNat : Int)) rfl (wanted_none rfl) rfl (by kernel_rfl) (by kernel_rfl) (by kernel_rfl) (fun _ _ _ h => h) ⟨hbW73, rW73_0, rW73_1, rW73_2, rW73_3⟩ (fun W hW => by (try obtain ⟨hbW73, rW73_0, rW73_1, rW73_2, rW73_3⟩ := hW); exact (run_loadOp (eval_of (put_get _ _ _ (by simp only [put_size]; rw [hsz]; decide))) (by simp [go_sem, Instr.loadAt, rW73_3.1 _ _ (by_get hVb), B8, byt]))) ?_
              refine ah_two 4 9 (by kernel_rfl) ?_ ?_
              · skip
                refine ao_run rfl (wanted_none rfl) 144 (vd0) _ rfl (run_loadOp (eval_of (pf4 (by decide) (put_get _ _ _ (by simp only [put_size]; rw [hsz]; decide)))) (by simp [go_sem, Instr.loadAt, lastCell2 hA hal2 fW73_0])) ⟨hbW73, rW73_0, rW73_1, rW73_2, rW73_3⟩ ?_
                refine ah_one 9 (by kernel_rfl) ?_
                obtain ⟨q74, hq74⟩ : ∃ x, x = W73.heap.size := ⟨_, rfl⟩
                refine ao_run rfl (wanted_none rfl) 149 (.slice (some ⟨q74, 0, none⟩) 1 1) (W73.alloc (.cells (([B8 b] : List Value)).toArray 5)) rfl (by rw [hq74]; exact (bsByte _ (eval_of (pf1 (by decide) (put_get _ _ _ (by simp only [put_size]; rw [hsz]; decide)))))) ⟨(hbW73.alloc hbW73.size _), (rW73_0.below ((Below.refl _ W73).alloc (Nat.le_refl _) _)), (rW73_1.below ((Below.refl _ W73).alloc (Nat.le_refl _) _)), (rW73_2.below ((Below.refl _ W73).alloc (Nat.le_refl _) _)), (rW73_3.below ((Below.refl _ W73).alloc (Nat.le_refl _) _))⟩ ?_
                have hqq74 : w.heap.size ≤ q74 := by rw [hq74]; exact hbW73.size
                have hyq74_par : ∀ k, DBlk (.slice al2 PLm.length cl2) PLm k → k < q74 := fun k hk => by have := (dblk_lt fW73_0 hk).2; omega
                have hnq74_q1 : q1 < q74 := by rw [hq74]; exact rW73_0.2.2
                have hnq74_q3 : q3 < q74 := by rw [hq74]; exact rW73_1.2.2
                have hnq74_q6 : q6 < q74 := by rw [hq74]; exact rW73_2.2.2
                have hnq74_q9 : q9 < q74 := by rw [hq74]; exact rW73_3.2.2
                refine fresh (C := fun x W => AH _ _ _ _ _ _ x W) (fun x X => _ = x ∧ Below w.heap.size w X ∧ RowAt X q1 [.int .i64 next, .slice ao L.length cap] ∧ RowAt X q3 [.int .i64 0, .slice none 0 0] ∧ RowAt X q6 (hvRow V) ∧ RowAt X q9 (byRow V) ∧ RowAt X q74 ([B8 b] : List Value) ∧ DOwn KPart 58 X (q9 + 1) (.slice al2 PLm.length cl2) PLm) ⟨rfl, (hbW73.alloc hbW73.size _), (rW73_0.below ((Below.refl _ W73).alloc (Nat.le_refl _) _)), (rW73_1.below ((Below.refl _ W73).alloc (Nat.le_refl _) _)), (rW73_2.below ((Below.refl _ W73).alloc (Nat.le_refl _) _)), (rW73_3.below ((Below.refl _ W73).alloc (Nat.le_refl _) _)), (by rw [hq74]; exact rowAt_alloc _ (([B8 b] : List Value)) _), (fW73_0.below ((Below.refl _ W73).alloc (Nat.le_refl _) _))⟩ ?_
                rintro _ W75 ⟨rfl, hbW75, rW75_0, rW75_1, rW75_2, rW75_3, rW75_4, fW75_0⟩
                clear hq74
                refine ah_one 10 (by kernel_rfl) ?_
                have hb29 : (q9 + 1) ≤ W75.heap.size := rW75_3.2.2
                have hmem : ((⟨s0, d0⟩ : EP), vd0) ∈ A ++ [((⟨s0, d0⟩ : EP), vd0)] := by simp
                have hpar := fW75_0
                rw [hA, hal2] at hpar
                have hown0 := hpar.dat _ hmem
                have hd0l := dlen hi3 hPLfin
                have hslb : Sl W75 (.slice (some ⟨q74, 0, none⟩) 1 1) [b] := sl_row1 rW75_4
                have hk_q1 : some q1 ≠ vd0.ownBlock := fun e => by have := (blk_lt hown0 e.symm).1; omega
                have hk_q3 : some q3 ≠ vd0.ownBlock := fun e => by have := (blk_lt hown0 e.symm).1; omega
                have hk_q6 : some q6 ≠ vd0.ownBlock := fun e => by have := (blk_lt hown0 e.symm).1; omega
                have hk_q9 : some q9 ≠ vd0.ownBlock := fun e => by have := (blk_lt hown0 e.symm).1; omega
                refine ao_to rfl (wanted_none rfl) 150 _ rfl (opTo_bytes _ _ rfl (q9 + 1) vd0 d0.length d0 [b] (eval_of (pf1 (by decide) (put_get _ _ _ (by simp only [put_size]; rw [hsz]; decide)))) hown0 _ (eval_of (put_get _ _ _ (by simp only [put_size]; rw [hsz]; decide))) hslb (by omega) (by simp) hb29) ?_
                rintro vd2 V76 ⟨hgr, hog⟩
                have hod : V76.ownsRow (q9 + 1) 5 1 vd2 (d0.length + 1) ((d0 ++ [b]).map B8) := hog
                have hbN := (hbW75.trans ((grew_below hgr hb29 (fun k hk => (blk_lt hown0 hk).1)).mono (by omega)))
                have rN77 := (rowAt_keep rW75_0 hgr.1 hk_q1)
                have rN78 := (rowAt_keep rW75_1 hgr.1 hk_q3)
                have rN79 := (rowAt_keep rW75_2 hgr.1 hk_q6)
                have rN80 := (rowAt_keep rW75_3 hgr.1 hk_q9)
                obtain ⟨PL2, hPL2⟩ : ∃ P, P = A ++ [((⟨s0, d0 ++ [b]⟩ : EP), vd2)] := ⟨_, rfl⟩
                have hl2 : PL2.length = PLm.length := by rw [hPL2, hA]; simp
                have hpl3 : (A ++ [((⟨s0, d0⟩ : EP), vd0)]).length = PLm.length := by rw [hA]
                have hgB := (blk_lt hpar.row (k := g) rfl).1
                have hrow2 := own_stay hpar.row hgr.1 (fun k hk e => hpar.ne _ hmem k e.symm hk)
                have hpar3 := DOwn.lastApp (x := b) hpar hgr hod
                rw [← hPL2, ← hal2, hpl3] at hpar3
                refine ⟨⟨hbN, rN77, rN78, rN79, rN80⟩, ?_⟩
                refine ah_takeW 11 151 (.pointer (some ⟨g, (A.length * 2), none⟩)) rfl (wanted_none rfl) rfl (by kernel_rfl) (by kernel_rfl) (by kernel_rfl) (fun _ _ _ h => h) ⟨hbN, rN77, rN78, rN79, rN80⟩ (fun W hW => by (try obtain ⟨hbN, rN77, rN78, rN79, rN80⟩ := hW); exact (run_nilOp (eval_of (pf2 (by decide) (pf8 (by decide) (put_get _ _ _ (by rw [hsz]; decide))))))) ?_
                refine ah_takeW 12 152 (.pointer (some ⟨g, ((A.length * 2) + 1), none⟩)) rfl (wanted_none rfl) rfl (by kernel_rfl) (by kernel_rfl) (by kernel_rfl) (fun _ _ _ h => h) ⟨hbN, rN77, rN78, rN79, rN80⟩ (fun W hW => by (try obtain ⟨hbN, rN77, rN78, rN79, rN80⟩ := hW); exact (run_fieldAddr (eval_of (put_get _ _ _ (by simp only [put_size]; rw [hsz]; decide))) (by simp [go_sem, Instr.fieldAt]))) ?_
                refine ah_one 13 (by kernel_rfl) ?_
                refine ao_skip rfl (wanted_none rfl) rfl _ (run_storeOp (eval_of (put_get _ _ _ (by simp only [put_size]; rw [hsz]; decide))) (eval_of (pf2 (by decide) (put_get _ _ _ (by simp only [put_size]; rw [hsz]; decide)))) (run_store1 (own_rowAt hrow2) (lastLt hpar) (by kernel_rfl) (own_one hod))) ⟨(below_set1 hbN (by omega)), (rN77.other (by omega)), (rN78.other (by omega)), (rN79.other (by omega)), (rN80.other (by omega))⟩ ?_
                refine fresh (C := fun x W => AH _ _ _ _ _ _ x W) (fun x X => _ = x ∧ Below w.heap.size w X ∧ RowAt X q1 [.int .i64 next, .slice ao L.length cap] ∧ RowAt X q3 [.int .i64 0, .slice none 0 0] ∧ RowAt X q6 (hvRow V) ∧ RowAt X q9 (byRow V) ∧ DOwn KPart 58 X (q9 + 1) (.slice al2 PLm.length cl2) PL2) ⟨rfl, (below_set1 hbN (by omega)), (rN77.other (by omega)), (rN78.other (by omega)), (rN79.other (by omega)), (rN80.other (by omega)), hpar3⟩ ?_
                rintro _ W81 ⟨rfl, hbW81, rW81_0, rW81_1, rW81_2, rW81_3, fW81_0⟩
                refine fresh (C := fun x W => AH _ _ _ _ _ _ x W) (fun x X => _ = X ∧ x.tmps.size = 167 ∧ x.defers = [] ∧ x.tmps[3]? = some (.pointer (some ⟨q1, 0, none⟩)) ∧ x.tmps[6]? = some (.pointer (some ⟨q3, 0, none⟩)) ∧ x.tmps[8]? = some (.slice (some ⟨q6, 0, none⟩) 2049 2049) ∧ x.tmps[9]? = some (.slice (some ⟨q9, 0, none⟩) 2048 2048) ∧ x.tmps[16]? = some (.int .i64 (((toldN V) : Nat) : Int)) ∧ x.tmps[17]? = some (.slice al2 PLm.length cl2) ∧ x.tmps[18]? = some (.int .i64 ((i : Nat) : Int))) ⟨rfl, (by simp only [put_size]; exact hsz), (by simp only [put_defers]; exact hdf), (pf1 (by decide) (pf4 (by decide) (pf8 (by decide) s_3))), (pf1 (by decide) (pf4 (by decide) (pf8 (by decide) s_6))), (pf1 (by decide) (pf4 (by decide) (pf8 (by decide) s_8))), (pf1 (by decide) (pf4 (by decide) (pf8 (by decide) s_9))), (pf1 (by decide) (pf4 (by decide) (pf8 (by decide) s_16))), (pf1 (by decide) (pf4 (by decide) (pf8 (by decide) s_17))), (pf1 (by decide) (pf4 (by decide) (pf8 (by decide) s_18)))⟩ ?_
                clear hsz hdf s_3 s_6 s_8 s_9 s_16 s_17 s_18 s_19
                rintro a _ ⟨rfl, hsz, hdf, s_3, s_6, s_8, s_9, s_16, s_17, s_18⟩
                refine ah_done (by kernel_rfl) ?_
                refine ow_blk _ ?_
                refine ow_then ?_
                refine ow_region [_, _, _] rfl (by intro o ho; simp only [List.mem_cons, List.not_mem_nil, or_false] at ho; rcases ho with rfl | rfl | rfl <;> rfl) ?_
                refine ow_run 110 (.int .i64 ((i : Nat) : Int)) _ rfl (run_moveOp (eval_of s_18)) ?_
                refine ow_run 111 (.int .i64 (((i + 1) : Nat) : Int)) _ rfl (run_binOp (eval_of (put_get _ _ _ (by rw [hsz]; decide))) (eval_cst _ _) (by simp [go_sem]) (addIw _ _ _ _ (by omega) (by omega) (by omega))) ?_
                refine ow_run 18 (.int .i64 (((i + 1) : Nat) : Int)) _ rfl (run_assignOp (eval_of (put_get _ _ _ (by simp only [put_size]; rw [hsz]; decide)))) ?_
                refine fresh (C := fun x W => wpRun _ [] x W _) (fun x X => _ = X ∧ x.tmps.size = 167 ∧ x.defers = [] ∧ x.tmps[3]? = some (.pointer (some ⟨q1, 0, none⟩)) ∧ x.tmps[6]? = some (.pointer (some ⟨q3, 0, none⟩)) ∧ x.tmps[8]? = some (.slice (some ⟨q6, 0, none⟩) 2049 2049) ∧ x.tmps[9]? = some (.slice (some ⟨q9, 0, none⟩) 2048 2048) ∧ x.tmps[16]? = some (.int .i64 (((toldN V) : Nat) : Int)) ∧ x.tmps[17]? = some (.slice al2 PLm.length cl2) ∧ x.tmps[18]? = some (.int .i64 (((i + 1) : Nat) : Int))) ⟨rfl, (by simp only [put_size]; exact hsz), (by simp only [put_defers]; exact hdf), (pf1 (by decide) (pf2 (by decide) s_3)), (pf1 (by decide) (pf2 (by decide) s_6)), (pf1 (by decide) (pf2 (by decide) s_8)), (pf1 (by decide) (pf2 (by decide) s_9)), (pf1 (by decide) (pf2 (by decide) s_16)), (pf1 (by decide) (pf2 (by decide) s_17)), (put_get _ _ _ (by simp only [put_size]; rw [hsz]; decide))⟩ ?_
                clear hsz hdf s_3 s_6 s_8 s_9 s_16 s_17 s_18
                rintro a _ ⟨rfl, hsz, hdf, s_3, s_6, s_8, s_9, s_16, s_17, s_18⟩
                exact ow_then (hK60 _ _ _ (by omega) ⟨(i + 1), al2, cl2, PL2, rfl, by omega, by omega, by rw [hPL2, List.map_append, ← hApre]; rfl, hsz, hdf, s_3, s_6, s_8, s_9, s_16, (by first | exact s_17 | (rw [s_17]; congr 2; first | rfl | omega | (push_cast; omega)) | (rw [s_17]; first | rfl | (simp; try omega))), (by first | exact s_18 | (rw [s_18]; congr 2; first | rfl | omega | (push_cast; omega)) | (rw [s_18]; first | rfl | (simp; try omega))), hbW81, rW81_0, rW81_1, rW81_2, rW81_3, (hl2 ▸ fW81_0)⟩)
              · skip
                obtain ⟨q84, hq84⟩ : ∃ x, x = W73.heap.size := ⟨_, rfl⟩
                refine ao_run rfl (wanted_none rfl) 149 (.slice (some ⟨q84, 0, none⟩) 1 1) (W73.alloc (.cells (([B8 b] : List Value)).toArray 5)) rfl (by rw [hq84]; exact (bsByte _ (eval_of (put_get _ _ _ (by simp only [put_size]; rw [hsz]; decide))))) ⟨(hbW73.alloc hbW73.size _), (rW73_0.below ((Below.refl _ W73).alloc (Nat.le_refl _) _)), (rW73_1.below ((Below.refl _ W73).alloc (Nat.le_refl _) _)), (rW73_2.below ((Below.refl _ W73).alloc (Nat.le_refl _) _)), (rW73_3.below ((Below.refl _ W73).alloc (Nat.le_refl _) _))⟩ ?_
                have hqq84 : w.heap.size ≤ q84 := by rw [hq84]; exact hbW73.size
                have hyq84_par : ∀ k, DBlk (.slice al2 PLm.length cl2) PLm k → k < q84 := fun k hk => by have := (dblk_lt fW73_0 hk).2; omega
                have hnq84_q1 : q1 < q84 := by rw [hq84]; exact rW73_0.2.2
                have hnq84_q3 : q3 < q84 := by rw [hq84]; exact rW73_1.2.2
                have hnq84_q6 : q6 < q84 := by rw [hq84]; exact rW73_2.2.2
                have hnq84_q9 : q9 < q84 := by rw [hq84]; exact rW73_3.2.2
                refine fresh (C := fun x W => AH _ _ _ _ _ _ x W) (fun x X => _ = x ∧ Below w.heap.size w X ∧ RowAt X q1 [.int .i64 next, .slice ao L.length cap] ∧ RowAt X q3 [.int .i64 0, .slice none 0 0] ∧ RowAt X q6 (hvRow V) ∧ RowAt X q9 (byRow V) ∧ RowAt X q84 ([B8 b] : List Value) ∧ DOwn KPart 58 X (q9 + 1) (.slice al2 PLm.length cl2) PLm) ⟨rfl, (hbW73.alloc hbW73.size _), (rW73_0.below ((Below.refl _ W73).alloc (Nat.le_refl _) _)), (rW73_1.below ((Below.refl _ W73).alloc (Nat.le_refl _) _)), (rW73_2.below ((Below.refl _ W73).alloc (Nat.le_refl _) _)), (rW73_3.below ((Below.refl _ W73).alloc (Nat.le_refl _) _)), (by rw [hq84]; exact rowAt_alloc _ (([B8 b] : List Value)) _), (fW73_0.below ((Below.refl _ W73).alloc (Nat.le_refl _) _))⟩ ?_
                rintro _ W85 ⟨rfl, hbW85, rW85_0, rW85_1, rW85_2, rW85_3, rW85_4, fW85_0⟩
                clear hq84
                refine ah_one 4 (by kernel_rfl) ?_
                refine ao_run rfl (wanted_none rfl) 144 (vd0) _ rfl (run_loadOp (eval_of (pf1 (by decide) (pf4 (by decide) (put_get _ _ _ (by simp only [put_size]; rw [hsz]; decide))))) (by simp [go_sem, Instr.loadAt, lastCell2 hA hal2 fW85_0])) ⟨hbW85, rW85_0, rW85_1, rW85_2, rW85_3⟩ ?_
                refine ah_one 10 (by kernel_rfl) ?_
                have hb29 : (q9 + 1) ≤ W85.heap.size := rW85_3.2.2
                have hmem : ((⟨s0, d0⟩ : EP), vd0) ∈ A ++ [((⟨s0, d0⟩ : EP), vd0)] := by simp
                have hpar := fW85_0
                rw [hA, hal2] at hpar
                have hown0 := hpar.dat _ hmem
                have hd0l := dlen hi3 hPLfin
                have hslb : Sl W85 (.slice (some ⟨q84, 0, none⟩) 1 1) [b] := sl_row1 rW85_4
                have hk_q1 : some q1 ≠ vd0.ownBlock := fun e => by have := (blk_lt hown0 e.symm).1; omega
                have hk_q3 : some q3 ≠ vd0.ownBlock := fun e => by have := (blk_lt hown0 e.symm).1; omega
                have hk_q6 : some q6 ≠ vd0.ownBlock := fun e => by have := (blk_lt hown0 e.symm).1; omega
                have hk_q9 : some q9 ≠ vd0.ownBlock := fun e => by have := (blk_lt hown0 e.symm).1; omega
                refine ao_to rfl (wanted_none rfl) 150 _ rfl (opTo_bytes _ _ rfl (q9 + 1) vd0 d0.length d0 [b] (eval_of (put_get _ _ _ (by simp only [put_size]; rw [hsz]; decide))) hown0 _ (eval_of (pf1 (by decide) (put_get _ _ _ (by simp only [put_size]; rw [hsz]; decide)))) hslb (by omega) (by simp) hb29) ?_
                rintro vd2 V86 ⟨hgr, hog⟩
                have hod : V86.ownsRow (q9 + 1) 5 1 vd2 (d0.length + 1) ((d0 ++ [b]).map B8) := hog
                have hbN := (hbW85.trans ((grew_below hgr hb29 (fun k hk => (blk_lt hown0 hk).1)).mono (by omega)))
                have rN87 := (rowAt_keep rW85_0 hgr.1 hk_q1)
                have rN88 := (rowAt_keep rW85_1 hgr.1 hk_q3)
                have rN89 := (rowAt_keep rW85_2 hgr.1 hk_q6)
                have rN90 := (rowAt_keep rW85_3 hgr.1 hk_q9)
                obtain ⟨PL2, hPL2⟩ : ∃ P, P = A ++ [((⟨s0, d0 ++ [b]⟩ : EP), vd2)] := ⟨_, rfl⟩
                have hl2 : PL2.length = PLm.length := by rw [hPL2, hA]; simp
                have hpl3 : (A ++ [((⟨s0, d0⟩ : EP), vd0)]).length = PLm.length := by rw [hA]
                have hgB := (blk_lt hpar.row (k := g) rfl).1
                have hrow2 := own_stay hpar.row hgr.1 (fun k hk e => hpar.ne _ hmem k e.symm hk)
                have hpar3 := DOwn.lastApp (x := b) hpar hgr hod
                rw [← hPL2, ← hal2, hpl3] at hpar3
                refine ⟨⟨hbN, rN87, rN88, rN89, rN90⟩, ?_⟩
                refine ah_takeW 11 151 (.pointer (some ⟨g, (A.length * 2), none⟩)) rfl (wanted_none rfl) rfl (by kernel_rfl) (by kernel_rfl) (by kernel_rfl) (fun _ _ _ h => h) ⟨hbN, rN87, rN88, rN89, rN90⟩ (fun W hW => by (try obtain ⟨hbN, rN87, rN88, rN89, rN90⟩ := hW); exact (run_nilOp (eval_of (pf2 (by decide) (pf8 (by decide) (put_get _ _ _ (by rw [hsz]; decide))))))) ?_
                refine ah_takeW 12 152 (.pointer (some ⟨g, ((A.length * 2) + 1), none⟩)) rfl (wanted_none rfl) rfl (by kernel_rfl) (by kernel_rfl) (by kernel_rfl) (fun _ _ _ h => h) ⟨hbN, rN87, rN88, rN89, rN90⟩ (fun W hW => by (try obtain ⟨hbN, rN87, rN88, rN89, rN90⟩ := hW); exact (run_fieldAddr (eval_of (put_get _ _ _ (by simp only [put_size]; rw [hsz]; decide))) (by simp [go_sem, Instr.fieldAt]))) ?_
                refine ah_one 13 (by kernel_rfl) ?_
                refine ao_skip rfl (wanted_none rfl) rfl _ (run_storeOp (eval_of (put_get _ _ _ (by simp only [put_size]; rw [hsz]; decide))) (eval_of (pf2 (by decide) (put_get _ _ _ (by simp only [put_size]; rw [hsz]; decide)))) (run_store1 (own_rowAt hrow2) (lastLt hpar) (by kernel_rfl) (own_one hod))) ⟨(below_set1 hbN (by omega)), (rN87.other (by omega)), (rN88.other (by omega)), (rN89.other (by omega)), (rN90.other (by omega))⟩ ?_
                refine fresh (C := fun x W => AH _ _ _ _ _ _ x W) (fun x X => _ = x ∧ Below w.heap.size w X ∧ RowAt X q1 [.int .i64 next, .slice ao L.length cap] ∧ RowAt X q3 [.int .i64 0, .slice none 0 0] ∧ RowAt X q6 (hvRow V) ∧ RowAt X q9 (byRow V) ∧ DOwn KPart 58 X (q9 + 1) (.slice al2 PLm.length cl2) PL2) ⟨rfl, (below_set1 hbN (by omega)), (rN87.other (by omega)), (rN88.other (by omega)), (rN89.other (by omega)), (rN90.other (by omega)), hpar3⟩ ?_
                rintro _ W91 ⟨rfl, hbW91, rW91_0, rW91_1, rW91_2, rW91_3, fW91_0⟩
                refine fresh (C := fun x W => AH _ _ _ _ _ _ x W) (fun x X => _ = X ∧ x.tmps.size = 167 ∧ x.defers = [] ∧ x.tmps[3]? = some (.pointer (some ⟨q1, 0, none⟩)) ∧ x.tmps[6]? = some (.pointer (some ⟨q3, 0, none⟩)) ∧ x.tmps[8]? = some (.slice (some ⟨q6, 0, none⟩) 2049 2049) ∧ x.tmps[9]? = some (.slice (some ⟨q9, 0, none⟩) 2048 2048) ∧ x.tmps[16]? = some (.int .i64 (((toldN V) : Nat) : Int)) ∧ x.tmps[17]? = some (.slice al2 PLm.length cl2) ∧ x.tmps[18]? = some (.int .i64 ((i : Nat) : Int))) ⟨rfl, (by simp only [put_size]; exact hsz), (by simp only [put_defers]; exact hdf), (pf1 (by decide) (pf4 (by decide) (pf8 (by decide) s_3))), (pf1 (by decide) (pf4 (by decide) (pf8 (by decide) s_6))), (pf1 (by decide) (pf4 (by decide) (pf8 (by decide) s_8))), (pf1 (by decide) (pf4 (by decide) (pf8 (by decide) s_9))), (pf1 (by decide) (pf4 (by decide) (pf8 (by decide) s_16))), (pf1 (by decide) (pf4 (by decide) (pf8 (by decide) s_17))), (pf1 (by decide) (pf4 (by decide) (pf8 (by decide) s_18)))⟩ ?_
                clear hsz hdf s_3 s_6 s_8 s_9 s_16 s_17 s_18 s_19
                rintro a _ ⟨rfl, hsz, hdf, s_3, s_6, s_8, s_9, s_16, s_17, s_18⟩
                refine ah_done (by kernel_rfl) ?_
                refine ow_blk _ ?_
                refine ow_then ?_
                refine ow_region [_, _, _] rfl (by intro o ho; simp only [List.mem_cons, List.not_mem_nil, or_false] at ho; rcases ho with rfl | rfl | rfl <;> rfl) ?_
                refine ow_run 110 (.int .i64 ((i : Nat) : Int)) _ rfl (run_moveOp (eval_of s_18)) ?_
                refine ow_run 111 (.int .i64 (((i + 1) : Nat) : Int)) _ rfl (run_binOp (eval_of (put_get _ _ _ (by rw [hsz]; decide))) (eval_cst _ _) (by simp [go_sem]) (addIw _ _ _ _ (by omega) (by omega) (by omega))) ?_
                refine ow_run 18 (.int .i64 (((i + 1) : Nat) : Int)) _ rfl (run_assignOp (eval_of (put_get _ _ _ (by simp only [put_size]; rw [hsz]; decide)))) ?_
                refine fresh (C := fun x W => wpRun _ [] x W _) (fun x X => _ = X ∧ x.tmps.size = 167 ∧ x.defers = [] ∧ x.tmps[3]? = some (.pointer (some ⟨q1, 0, none⟩)) ∧ x.tmps[6]? = some (.pointer (some ⟨q3, 0, none⟩)) ∧ x.tmps[8]? = some (.slice (some ⟨q6, 0, none⟩) 2049 2049) ∧ x.tmps[9]? = some (.slice (some ⟨q9, 0, none⟩) 2048 2048) ∧ x.tmps[16]? = some (.int .i64 (((toldN V) : Nat) : Int)) ∧ x.tmps[17]? = some (.slice al2 PLm.length cl2) ∧ x.tmps[18]? = some (.int .i64 (((i + 1) : Nat) : Int))) ⟨rfl, (by simp only [put_size]; exact hsz), (by simp only [put_defers]; exact hdf), (pf1 (by decide) (pf2 (by decide) s_3)), (pf1 (by decide) (pf2 (by decide) s_6)), (pf1 (by decide) (pf2 (by decide) s_8)), (pf1 (by decide) (pf2 (by decide) s_9)), (pf1 (by decide) (pf2 (by decide) s_16)), (pf1 (by decide) (pf2 (by decide) s_17)), (put_get _ _ _ (by simp only [put_size]; rw [hsz]; decide))⟩ ?_
                clear hsz hdf s_3 s_6 s_8 s_9 s_16 s_17 s_18
                rintro a _ ⟨rfl, hsz, hdf, s_3, s_6, s_8, s_9, s_16, s_17, s_18⟩
                exact ow_then (hK60 _ _ _ (by omega) ⟨(i + 1), al2, cl2, PL2, rfl, by omega, by omega, by rw [hPL2, List.map_append, ← hApre]; rfl, hsz, hdf, s_3, s_6, s_8, s_9, s_16, (by first | exact s_17 | (rw [s_17]; congr 2; first | rfl | omega | (push_cast; omega)) | (rw [s_17]; first | rfl | (simp; try omega))), (by first | exact s_18 | (rw [s_18]; congr 2; first | rfl | omega | (push_cast; omega)) | (rw [s_18]; first | rfl | (simp; try omega))), hbW91, rW91_0, rW91_1, rW91_2, rW91_3, (hl2 ▸ fW91_0)⟩)
            · skip
              have hi0 : i ≠ 0 := fun e => by have h := hb_65; rw [e] at h; exact absurd h (by decide)
              obtain ⟨y, hy⟩ : ∃ y, V[i - 1]? = some y := ⟨_, List.getElem?_eq_getElem (by rw [hVl]; omega)⟩
              refine owl_region [_, _, _, _, _, _, _, _, _, _] rfl ?_
              refine owl_run (wanted_none rfl) 117 (.int .i64 ((i : Nat) : Int)) _ rfl (run_moveOp (eval_of s_18)) ?_
              refine owl_run (wanted_none rfl) 118 (.bool false) _ rfl (run_binOp (eval_of (put_get _ _ _ (by rw [hsz]; decide))) (eval_cst _ _) (eqIntI _ _ _ _ _ _ _) (eqlIb _ _ _ false hb_65)) ?_
              refine owl_run (wanted_none rfl) 119 (.bool false) _ rfl (run_moveOp (eval_of (put_get _ _ _ (by simp only [put_size]; rw [hsz]; decide)))) ?_
              refine owg_run 2 119 false rfl (by kernel_rfl) (put_get _ _ _ (by simp only [put_size]; rw [hsz]; decide)) 120 (.slice (some ⟨q6, 0, none⟩) 2049 2049) _ rfl (run_moveOp (eval_of (pf1 (by decide) (pf2 (by decide) s_8)))) ?_
              refine owg_run 2 119 false rfl (by kernel_rfl) (pf1 (by decide) (put_get _ _ _ (by simp only [put_size]; rw [hsz]; decide))) 121 (.int .i64 ((i : Nat) : Int)) _ rfl (run_moveOp (eval_of (pf4 (by decide) s_18))) ?_
              refine owg_run 2 119 false rfl (by kernel_rfl) (pf2 (by decide) (put_get _ _ _ (by simp only [put_size]; rw [hsz]; decide))) 122 (.int .i64 (((i - 1) : Nat) : Int)) _ rfl (run_binOp (eval_of (put_get _ _ _ (by simp only [put_size]; rw [hsz]; decide))) (eval_cst _ _) (by simp [go_sem]) (subIw _ _ _ _ (by omega) (by omega) (by omega))) ?_
              refine owg_run 2 119 false rfl (by kernel_rfl) (pf1 (by decide) (pf2 (by decide) (put_get _ _ _ (by simp only [put_size]; rw [hsz]; decide)))) 123 (.pointer (some ⟨q6, (i - 1), none⟩)) _ rfl (run_indexOp (eval_of (pf2 (by decide) (put_get _ _ _ (by simp only [put_size]; rw [hsz]; decide)))) (eval_of (put_get _ _ _ (by simp only [put_size]; rw [hsz]; decide))) (idxBoolRow _ _ _ _ (by omega) _)) ?_
              refine owg_run 2 119 false rfl (by kernel_rfl) (pf4 (by decide) (put_get _ _ _ (by simp only [put_size]; rw [hsz]; decide))) 124 (.bool (isS y)) _ rfl (run_loadOp (eval_of (put_get _ _ _ (by simp only [put_size]; rw [hsz]; decide))) (by simp [go_sem, Instr.loadAt, rW58_2.1 _ _ (hv_get hy)])) ?_
              refine owg_run 2 119 false rfl (by kernel_rfl) (pf1 (by decide) (pf4 (by decide) (put_get _ _ _ (by simp only [put_size]; rw [hsz]; decide)))) 125 (.bool (!(isS y))) _ rfl (run_notOp (eval_of (put_get _ _ _ (by simp only [put_size]; rw [hsz]; decide)))) ?_
              refine owl_run (wanted_none rfl) 126 (.bool (!(isS y))) _ rfl (run_pickF (eval_of (pf2 (by decide) (pf4 (by decide) (put_get _ _ _ (by simp only [put_size]; rw [hsz]; decide))))) (eval_of (put_get _ _ _ (by simp only [put_size]; rw [hsz]; decide)))) ?_
              refine fresh (C := fun x W => WL _ _ _ [] x W) (fun x X => _ = X ∧ x.tmps.size = 167 ∧ x.defers = [] ∧ x.tmps[3]? = some (.pointer (some ⟨q1, 0, none⟩)) ∧ x.tmps[6]? = some (.pointer (some ⟨q3, 0, none⟩)) ∧ x.tmps[8]? = some (.slice (some ⟨q6, 0, none⟩) 2049 2049) ∧ x.tmps[9]? = some (.slice (some ⟨q9, 0, none⟩) 2048 2048) ∧ x.tmps[16]? = some (.int .i64 (((toldN V) : Nat) : Int)) ∧ x.tmps[17]? = some (.slice al PL.length cl) ∧ x.tmps[18]? = some (.int .i64 ((i : Nat) : Int)) ∧ x.tmps[126]? = some (.bool (!(isS y)))) ⟨rfl, (by simp only [put_size]; exact hsz), (by simp only [put_defers]; exact hdf), (pf2 (by decide) (pf8 (by decide) s_3)), (pf2 (by decide) (pf8 (by decide) s_6)), (pf2 (by decide) (pf8 (by decide) s_8)), (pf2 (by decide) (pf8 (by decide) s_9)), (pf2 (by decide) (pf8 (by decide) s_16)), (pf2 (by decide) (pf8 (by decide) s_17)), (pf2 (by decide) (pf8 (by decide) s_18)), (put_get _ _ _ (by simp only [put_size]; rw [hsz]; decide))⟩ ?_
              clear hsz hdf s_3 s_6 s_8 s_9 s_16 s_17 s_18 s_116
              rintro a _ ⟨rfl, hsz, hdf, s_3, s_6, s_8, s_9, s_16, s_17, s_18, s_126⟩
              refine wl_done ?_
              refine ow_then ?_
              rcases Bool.eq_false_or_eq_true ((isS y)) with hb_95 | hb_95
              · skip
                refine ow_false (eval_of (flag_of s_126 (not_of hb_95))) ?_
                refine wp_skip ?_
                refine ow_then ?_
                refine wp_seq ?_
                obtain ⟨z, rfl⟩ : ∃ z, y = some z := by cases y with | none => exact absurd hb_95 (by simp [isS]) | some z => exact ⟨z, rfl⟩
                obtain ⟨A, s0, d0, vd0, hA0, hstep0, hnext⟩ := old_part (next := next) hti hx (by have h := hb_65; simpa using h) hy hPL
                obtain ⟨PLm, hPLm⟩ : ∃ P, P = PL := ⟨_, rfl⟩
                have hl27 := partsL_le hPL hi2
                have hlm : PLm.length = PL.length := by rw [hPLm]
                have hA : PLm = A ++ [((⟨s0, d0⟩ : EP), vd0)] := by rw [hPLm]; exact hA0
                have hstep : PLm.map Prod.fst = A.map Prod.fst ++ [⟨s0, d0⟩] := by rw [hA, List.map_append]; rfl
                obtain ⟨al2, hal0⟩ : ∃ a, a = al := ⟨_, rfl⟩
                obtain ⟨cl2, hcl0⟩ : ∃ a, a = cl := ⟨_, rfl⟩
                have hpar2 := gW58_0
                rw [← hal0, ← hcl0, ← hPLm] at hpar2
                have hs17 := s_17
                rw [← hal0, ← hcl0, ← hPLm] at hs17
                have hApre : A.map Prod.fst ++ [⟨s0, d0 ++ [b]⟩] = (partsL V (i + 1)).map (toP next) := hnext.symm
                have hPLfin : A.map Prod.fst ++ [⟨s0, d0 ++ [b]⟩] = (partsL V (i + 1)).map (toP next) := hApre
                have hAl : PLm.length = A.length + 1 := by rw [hA]; simp
                have hpq := hpar2
                rw [hA] at hpq
                obtain ⟨g, hal2⟩ := own_some hpq
                refine ow_region [_, _, _, _, _, _] rfl (by intro o ho; simp only [List.mem_cons, List.not_mem_nil, or_false] at ho; rcases ho with rfl | rfl | rfl | rfl | rfl | rfl <;> rfl) ?_
                refine ow_run 135 (.slice al2 PLm.length cl2) _ rfl (run_moveOp (eval_of hs17)) ?_
                refine ow_run 136 (.slice al2 PLm.length cl2) _ rfl (run_moveOp (eval_of (pf1 (by decide) hs17))) ?_
                refine ow_run 137 (.int .i64 ((PLm.length : Nat) : Int)) _ rfl (run_lenOp Try.underlying22 (eval_of (put_get _ _ _ (by simp only [put_size]; rw [hsz]; decide)))) ?_
                refine ow_run 138 (.int .i64 ((A.length : Nat) : Int)) _ rfl (run_binOp (eval_of (put_get _ _ _ (by simp only [put_size]; rw [hsz]; decide))) (eval_cst _ _) (by simp [go_sem]) (subIw _ _ _ _ (by omega) (by omega) (by omega))) ?_
                refine ow_run 139 (.pointer (some ⟨g, (A.length * 2), none⟩)) _ rfl (run_indexOp (eval_of (pf1 (by decide) (pf2 (by decide) (put_get _ _ _ (by rw [hsz]; decide))))) (eval_of (put_get _ _ _ (by simp only [put_size]; rw [hsz]; decide))) (idxPart0 hal2 (by omega) _)) ?_
                refine ow_run 19 (.pointer (some ⟨g, (A.length * 2), none⟩)) _ rfl (run_assignOp (eval_of (put_get _ _ _ (by simp only [put_size]; rw [hsz]; decide)))) ?_
                refine fresh (C := fun x W => wpRun _ [] x W _) (fun x X => _ = X ∧ x.tmps.size = 167 ∧ x.defers = [] ∧ x.tmps[3]? = some (.pointer (some ⟨q1, 0, none⟩)) ∧ x.tmps[6]? = some (.pointer (some ⟨q3, 0, none⟩)) ∧ x.tmps[8]? = some (.slice (some ⟨q6, 0, none⟩) 2049 2049) ∧ x.tmps[9]? = some (.slice (some ⟨q9, 0, none⟩) 2048 2048) ∧ x.tmps[16]? = some (.int .i64 (((toldN V) : Nat) : Int)) ∧ x.tmps[17]? = some (.slice al2 PLm.length cl2) ∧ x.tmps[18]? = some (.int .i64 ((i : Nat) : Int)) ∧ x.tmps[19]? = some (.pointer (some ⟨g, (A.length * 2), none⟩))) ⟨rfl, (by simp only [put_size]; exact hsz), (by simp only [put_defers]; exact hdf), (pf2 (by decide) (pf4 (by decide) s_3)), (pf2 (by decide) (pf4 (by decide) s_6)), (pf2 (by decide) (pf4 (by decide) s_8)), (pf2 (by decide) (pf4 (by decide) s_9)), (pf2 (by decide) (pf4 (by decide) s_16)), (pf2 (by decide) (pf4 (by decide) hs17)), (pf2 (by decide) (pf4 (by decide) s_18)), (put_get _ _ _ (by simp only [put_size]; rw [hsz]; decide))⟩ ?_
                clear hsz hdf s_3 s_6 s_8 s_9 s_16 s_18 s_126
                rintro a _ ⟨rfl, hsz, hdf, s_3, s_6, s_8, s_9, s_16, s_17, s_18, s_19⟩
                refine ow_then ?_
                refine ah_region (fun W => Below w.heap.size w W ∧ RowAt W q1 [.int .i64 next, .slice ao L.length cap] ∧ RowAt W q3 [.int .i64 0, .slice none 0 0] ∧ RowAt W q6 (hvRow V) ∧ RowAt W q9 (byRow V)) (by kernel_rfl) 14 rfl ?_
                refine fresh (C := fun x W => AH _ _ _ _ _ _ x W) (fun x X => _ = x ∧ Below w.heap.size w X ∧ RowAt X q1 [.int .i64 next, .slice ao L.length cap] ∧ RowAt X q3 [.int .i64 0, .slice none 0 0] ∧ RowAt X q6 (hvRow V) ∧ RowAt X q9 (byRow V) ∧ DOwn KPart 58 X (q9 + 1) (.slice al2 PLm.length cl2) PLm) ⟨rfl, (hbW58.trans (((Below.refl _ W58).drew).mono hbW58.size)), (rW58_0.below ((Below.refl _ W58).drew)), (rW58_1.below ((Below.refl _ W58).drew)), (rW58_2.below ((Below.refl _ W58).drew)), (rW58_3.below ((Below.refl _ W58).drew)), (hpar2.below ((Below.refl _ W58).drew))⟩ ?_
                rintro _ W97 ⟨rfl, hbW97, rW97_0, rW97_1, rW97_2, rW97_3, fW97_0⟩
                refine ah_takeW 0 140 (.pointer (some ⟨g, (A.length * 2), none⟩)) rfl (wanted_none rfl) rfl (by kernel_rfl) (by kernel_rfl) (by kernel_rfl) (fun _ _ _ h => h) ⟨hbW97, rW97_0, rW97_1, rW97_2, rW97_3⟩ (fun W hW => by (try obtain ⟨hbW97, rW97_0, rW97_1, rW97_2, rW97_3⟩ := hW); exact (run_moveOp (eval_of s_19))) ?_
                refine ah_takeW 1 141 (.pointer (some ⟨g, (A.length * 2), none⟩)) rfl (wanted_none rfl) rfl (by kernel_rfl) (by kernel_rfl) (by kernel_rfl) (fun _ _ _ h => h) ⟨hbW97, rW97_0, rW97_1, rW97_2, rW97_3⟩ (fun W hW => by (try obtain ⟨hbW97, rW97_0, rW97_1, rW97_2, rW97_3⟩ := hW); exact (run_moveOp (eval_of (pf1 (by decide) s_19)))) ?_
                refine ah_takeW 2 142 (.pointer (some ⟨g, (A.length * 2), none⟩)) rfl (wanted_none rfl) rfl (by kernel_rfl) (by kernel_rfl) (by kernel_rfl) (fun _ _ _ h => h) ⟨hbW97, rW97_0, rW97_1, rW97_2, rW97_3⟩ (fun W hW => by (try obtain ⟨hbW97, rW97_0, rW97_1, rW97_2, rW97_3⟩ := hW); exact (run_nilOp (eval_of (put_get _ _ _ (by simp only [put_size]; rw [hsz]; decide))))) ?_
                refine ah_takeW 3 143 (.pointer (some ⟨g, ((A.length * 2) + 1), none⟩)) rfl (wanted_none rfl) rfl (by kernel_rfl) (by kernel_rfl) (by kernel_rfl) (fun _ _ _ h => h) ⟨hbW97, rW97_0, rW97_1, rW97_2, rW97_3⟩ (fun W hW => by (try obtain ⟨hbW97, rW97_0, rW97_1, rW97_2, rW97_3⟩ := hW); exact (run_fieldAddr (eval_of (put_get _ _ _ (by simp only [put_size]; rw [hsz]; decide))) (by simp [go_sem, Instr.fieldAt]))) ?_
                refine ah_takeW 5 145 (.slice (some ⟨q9, 0, none⟩) 2048 2048) rfl (wanted_none rfl) rfl (by kernel_rfl) (by kernel_rfl) (by kernel_rfl) (fun _ _ _ h => h) ⟨hbW97, rW97_0, rW97_1, rW97_2, rW97_3⟩ (fun W hW => by (try obtain ⟨hbW97, rW97_0, rW97_1, rW97_2, rW97_3⟩ := hW); exact (run_moveOp (eval_of (pf4 (by decide) s_9)))) ?_
                refine ah_takeW 6 146 (.int .i64 ((i : Nat) : Int)) rfl (wanted_none rfl) rfl (by kernel_rfl) (by kernel_rfl) (by kernel_rfl) (fun _ _ _ h => h) ⟨hbW97, rW97_0, rW97_1, rW97_2, rW97_3⟩ (fun W hW => by (try obtain ⟨hbW97, rW97_0, rW97_1, rW97_2, rW97_3⟩ := hW); exact (run_moveOp (eval_of (pf1 (by decide) (pf4 (by decide) s_18))))) ?_
                refine ah_takeW 7 147 (.pointer (some ⟨q9, i, none⟩)) rfl (wanted_none rfl) rfl (by kernel_rfl) (by kernel_rfl) (by kernel_rfl) (fun _ _ _ h => h) ⟨hbW97, rW97_0, rW97_1, rW97_2, rW97_3⟩ (fun W hW => by (try obtain ⟨hbW97, rW97_0, rW97_1, rW97_2, rW97_3⟩ := hW); exact (run_indexOp (eval_of (pf1 (by decide) (put_get _ _ _ (by simp only [put_size]; rw [hsz]; decide)))) (eval_of (put_get _ _ _ (by simp only [put_size]; rw [hsz]; decide))) (idxByteRow _ _ _ _ (by omega) _))) ?_
                refine ah_takeW 8 148 (.int .u8 (b.toNat : Int)) rfl (wanted_none rfl) rfl (by kernel_rfl) (by kernel_rfl) (by kernel_rfl) (fun _ _ _ h => h) ⟨hbW97, rW97_0, rW97_1, rW97_2, rW97_3⟩ (fun W hW => by (try obtain ⟨hbW97, rW97_0, rW97_1, rW97_2, rW97_3⟩ := hW); exact (run_loadOp (eval_of (put_get _ _ _ (by simp only [put_size]; rw [hsz]; decide))) (by simp [go_sem, Instr.loadAt, rW97_3.1 _ _ (by_get hVb), B8, byt]))) ?_
                refine ah_two 4 9 (by kernel_rfl) ?_ ?_
                · skip
                  refine ao_run rfl (wanted_none rfl) 144 (vd0) _ rfl (run_loadOp (eval_of (pf4 (by decide) (put_get _ _ _ (by simp only [put_size]; rw [hsz]; decide)))) (by simp [go_sem, Instr.loadAt, lastCell2 hA hal2 fW97_0])) ⟨hbW97, rW97_0, rW97_1, rW97_2, rW97_3⟩ ?_
                  refine ah_one 9 (by kernel_rfl) ?_
                  obtain ⟨q98, hq98⟩ : ∃ x, x = W97.heap.size := ⟨_, rfl⟩
                  refine ao_run rfl (wanted_none rfl) 149 (.slice (some ⟨q98, 0, none⟩) 1 1) (W97.alloc (.cells (([B8 b] : List Value)).toArray 5)) rfl (by rw [hq98]; exact (bsByte _ (eval_of (pf1 (by decide) (put_get _ _ _ (by simp only [put_size]; rw [hsz]; decide)))))) ⟨(hbW97.alloc hbW97.size _), (rW97_0.below ((Below.refl _ W97).alloc (Nat.le_refl _) _)), (rW97_1.below ((Below.refl _ W97).alloc (Nat.le_refl _) _)), (rW97_2.below ((Below.refl _ W97).alloc (Nat.le_refl _) _)), (rW97_3.below ((Below.refl _ W97).alloc (Nat.le_refl _) _))⟩ ?_
                  have hqq98 : w.heap.size ≤ q98 := by rw [hq98]; exact hbW97.size
                  have hyq98_par : ∀ k, DBlk (.slice al2 PLm.length cl2) PLm k → k < q98 := fun k hk => by have := (dblk_lt fW97_0 hk).2; omega
                  have hnq98_q1 : q1 < q98 := by rw [hq98]; exact rW97_0.2.2
                  have hnq98_q3 : q3 < q98 := by rw [hq98]; exact rW97_1.2.2
                  have hnq98_q6 : q6 < q98 := by rw [hq98]; exact rW97_2.2.2
                  have hnq98_q9 : q9 < q98 := by rw [hq98]; exact rW97_3.2.2
                  refine fresh (C := fun x W => AH _ _ _ _ _ _ x W) (fun x X => _ = x ∧ Below w.heap.size w X ∧ RowAt X q1 [.int .i64 next, .slice ao L.length cap] ∧ RowAt X q3 [.int .i64 0, .slice none 0 0] ∧ RowAt X q6 (hvRow V) ∧ RowAt X q9 (byRow V) ∧ RowAt X q98 ([B8 b] : List Value) ∧ DOwn KPart 58 X (q9 + 1) (.slice al2 PLm.length cl2) PLm) ⟨rfl, (hbW97.alloc hbW97.size _), (rW97_0.below ((Below.refl _ W97).alloc (Nat.le_refl _) _)), (rW97_1.below ((Below.refl _ W97).alloc (Nat.le_refl _) _)), (rW97_2.below ((Below.refl _ W97).alloc (Nat.le_refl _) _)), (rW97_3.below ((Below.refl _ W97).alloc (Nat.le_refl _) _)), (by rw [hq98]; exact rowAt_alloc _ (([B8 b] : List Value)) _), (fW97_0.below ((Below.refl _ W97).alloc (Nat.le_refl _) _))⟩ ?_
                  rintro _ W99 ⟨rfl, hbW99, rW99_0, rW99_1, rW99_2, rW99_3, rW99_4, fW99_0⟩
                  clear hq98
                  refine ah_one 10 (by kernel_rfl) ?_
                  have hb29 : (q9 + 1) ≤ W99.heap.size := rW99_3.2.2
                  have hmem : ((⟨s0, d0⟩ : EP), vd0) ∈ A ++ [((⟨s0, d0⟩ : EP), vd0)] := by simp
                  have hpar := fW99_0
                  rw [hA, hal2] at hpar
                  have hown0 := hpar.dat _ hmem
                  have hd0l := dlen hi3 hPLfin
                  have hslb : Sl W99 (.slice (some ⟨q98, 0, none⟩) 1 1) [b] := sl_row1 rW99_4
                  have hk_q1 : some q1 ≠ vd0.ownBlock := fun e => by have := (blk_lt hown0 e.symm).1; omega
                  have hk_q3 : some q3 ≠ vd0.ownBlock := fun e => by have := (blk_lt hown0 e.symm).1; omega
                  have hk_q6 : some q6 ≠ vd0.ownBlock := fun e => by have := (blk_lt hown0 e.symm).1; omega
                  have hk_q9 : some q9 ≠ vd0.ownBlock := fun e => by have := (blk_lt hown0 e.symm).1; omega
                  refine ao_to rfl (wanted_none rfl) 150 _ rfl (opTo_bytes _ _ rfl (q9 + 1) vd0 d0.length d0 [b] (eval_of (pf1 (by decide) (put_get _ _ _ (by simp only [put_size]; rw [hsz]; decide)))) hown0 _ (eval_of (put_get _ _ _ (by simp only [put_size]; rw [hsz]; decide))) hslb (by omega) (by simp) hb29) ?_
                  rintro vd2 V100 ⟨hgr, hog⟩
                  have hod : V100.ownsRow (q9 + 1) 5 1 vd2 (d0.length + 1) ((d0 ++ [b]).map B8) := hog
                  have hbN := (hbW99.trans ((grew_below hgr hb29 (fun k hk => (blk_lt hown0 hk).1)).mono (by omega)))
                  have rN101 := (rowAt_keep rW99_0 hgr.1 hk_q1)
                  have rN102 := (rowAt_keep rW99_1 hgr.1 hk_q3)
                  have rN103 := (rowAt_keep rW99_2 hgr.1 hk_q6)
                  have rN104 := (rowAt_keep rW99_3 hgr.1 hk_q9)
                  obtain ⟨PL2, hPL2⟩ : ∃ P, P = A ++ [((⟨s0, d0 ++ [b]⟩ : EP), vd2)] := ⟨_, rfl⟩
                  have hl2 : PL2.length = PLm.length := by rw [hPL2, hA]; simp
                  have hpl3 : (A ++ [((⟨s0, d0⟩ : EP), vd0)]).length = PLm.length := by rw [hA]
                  have hgB := (blk_lt hpar.row (k := g) rfl).1
                  have hrow2 := own_stay hpar.row hgr.1 (fun k hk e => hpar.ne _ hmem k e.symm hk)
                  have hpar3 := DOwn.lastApp (x := b) hpar hgr hod
                  rw [← hPL2, ← hal2, hpl3] at hpar3
                  refine ⟨⟨hbN, rN101, rN102, rN103, rN104⟩, ?_⟩
                  refine ah_takeW 11 151 (.pointer (some ⟨g, (A.length * 2), none⟩)) rfl (wanted_none rfl) rfl (by kernel_rfl) (by kernel_rfl) (by kernel_rfl) (fun _ _ _ h => h) ⟨hbN, rN101, rN102, rN103, rN104⟩ (fun W hW => by (try obtain ⟨hbN, rN101, rN102, rN103, rN104⟩ := hW); exact (run_nilOp (eval_of (pf2 (by decide) (pf8 (by decide) (put_get _ _ _ (by rw [hsz]; decide))))))) ?_
                  refine ah_takeW 12 152 (.pointer (some ⟨g, ((A.length * 2) + 1), none⟩)) rfl (wanted_none rfl) rfl (by kernel_rfl) (by kernel_rfl) (by kernel_rfl) (fun _ _ _ h => h) ⟨hbN, rN101, rN102, rN103, rN104⟩ (fun W hW => by (try obtain ⟨hbN, rN101, rN102, rN103, rN104⟩ := hW); exact (run_fieldAddr (eval_of (put_get _ _ _ (by simp only [put_size]; rw [hsz]; decide))) (by simp [go_sem, Instr.fieldAt]))) ?_
                  refine ah_one 13 (by kernel_rfl) ?_
                  refine ao_skip rfl (wanted_none rfl) rfl _ (run_storeOp (eval_of (put_get _ _ _ (by simp only [put_size]; rw [hsz]; decide))) (eval_of (pf2 (by decide) (put_get _ _ _ (by simp only [put_size]; rw [hsz]; decide)))) (run_store1 (own_rowAt hrow2) (lastLt hpar) (by kernel_rfl) (own_one hod))) ⟨(below_set1 hbN (by omega)), (rN101.other (by omega)), (rN102.other (by omega)), (rN103.other (by omega)), (rN104.other (by omega))⟩ ?_
                  refine fresh (C := fun x W => AH _ _ _ _ _ _ x W) (fun x X => _ = x ∧ Below w.heap.size w X ∧ RowAt X q1 [.int .i64 next, .slice ao L.length cap] ∧ RowAt X q3 [.int .i64 0, .slice none 0 0] ∧ RowAt X q6 (hvRow V) ∧ RowAt X q9 (byRow V) ∧ DOwn KPart 58 X (q9 + 1) (.slice al2 PLm.length cl2) PL2) ⟨rfl, (below_set1 hbN (by omega)), (rN101.other (by omega)), (rN102.other (by omega)), (rN103.other (by omega)), (rN104.other (by omega)), hpar3⟩ ?_
                  rintro _ W105 ⟨rfl, hbW105, rW105_0, rW105_1, rW105_2, rW105_3, fW105_0⟩
                  refine fresh (C := fun x W => AH _ _ _ _ _ _ x W) (fun x X => _ = X ∧ x.tmps.size = 167 ∧ x.defers = [] ∧ x.tmps[3]? = some (.pointer (some ⟨q1, 0, none⟩)) ∧ x.tmps[6]? = some (.pointer (some ⟨q3, 0, none⟩)) ∧ x.tmps[8]? = some (.slice (some ⟨q6, 0, none⟩) 2049 2049) ∧ x.tmps[9]? = some (.slice (some ⟨q9, 0, none⟩) 2048 2048) ∧ x.tmps[16]? = some (.int .i64 (((toldN V) : Nat) : Int)) ∧ x.tmps[17]? = some (.slice al2 PLm.length cl2) ∧ x.tmps[18]? = some (.int .i64 ((i : Nat) : Int))) ⟨rfl, (by simp only [put_size]; exact hsz), (by simp only [put_defers]; exact hdf), (pf1 (by decide) (pf4 (by decide) (pf8 (by decide) s_3))), (pf1 (by decide) (pf4 (by decide) (pf8 (by decide) s_6))), (pf1 (by decide) (pf4 (by decide) (pf8 (by decide) s_8))), (pf1 (by decide) (pf4 (by decide) (pf8 (by decide) s_9))), (pf1 (by decide) (pf4 (by decide) (pf8 (by decide) s_16))), (pf1 (by decide) (pf4 (by decide) (pf8 (by decide) s_17))), (pf1 (by decide) (pf4 (by decide) (pf8 (by decide) s_18)))⟩ ?_
                  clear hsz hdf s_3 s_6 s_8 s_9 s_16 s_17 s_18 s_19
                  rintro a _ ⟨rfl, hsz, hdf, s_3, s_6, s_8, s_9, s_16, s_17, s_18⟩
                  refine ah_done (by kernel_rfl) ?_
                  refine ow_blk _ ?_
                  refine ow_then ?_
                  refine ow_region [_, _, _] rfl (by intro o ho; simp only [List.mem_cons, List.not_mem_nil, or_false] at ho; rcases ho with rfl | rfl | rfl <;> rfl) ?_
                  refine ow_run 110 (.int .i64 ((i : Nat) : Int)) _ rfl (run_moveOp (eval_of s_18)) ?_
                  refine ow_run 111 (.int .i64 (((i + 1) : Nat) : Int)) _ rfl (run_binOp (eval_of (put_get _ _ _ (by rw [hsz]; decide))) (eval_cst _ _) (by simp [go_sem]) (addIw _ _ _ _ (by omega) (by omega) (by omega))) ?_
                  refine ow_run 18 (.int .i64 (((i + 1) : Nat) : Int)) _ rfl (run_assignOp (eval_of (put_get _ _ _ (by simp only [put_size]; rw [hsz]; decide)))) ?_
                  refine fresh (C := fun x W => wpRun _ [] x W _) (fun x X => _ = X ∧ x.tmps.size = 167 ∧ x.defers = [] ∧ x.tmps[3]? = some (.pointer (some ⟨q1, 0, none⟩)) ∧ x.tmps[6]? = some (.pointer (some ⟨q3, 0, none⟩)) ∧ x.tmps[8]? = some (.slice (some ⟨q6, 0, none⟩) 2049 2049) ∧ x.tmps[9]? = some (.slice (some ⟨q9, 0, none⟩) 2048 2048) ∧ x.tmps[16]? = some (.int .i64 (((toldN V) : Nat) : Int)) ∧ x.tmps[17]? = some (.slice al2 PLm.length cl2) ∧ x.tmps[18]? = some (.int .i64 (((i + 1) : Nat) : Int))) ⟨rfl, (by simp only [put_size]; exact hsz), (by simp only [put_defers]; exact hdf), (pf1 (by decide) (pf2 (by decide) s_3)), (pf1 (by decide) (pf2 (by decide) s_6)), (pf1 (by decide) (pf2 (by decide) s_8)), (pf1 (by decide) (pf2 (by decide) s_9)), (pf1 (by decide) (pf2 (by decide) s_16)), (pf1 (by decide) (pf2 (by decide) s_17)), (put_get _ _ _ (by simp only [put_size]; rw [hsz]; decide))⟩ ?_
                  clear hsz hdf s_3 s_6 s_8 s_9 s_16 s_17 s_18
                  rintro a _ ⟨rfl, hsz, hdf, s_3, s_6, s_8, s_9, s_16, s_17, s_18⟩
                  exact ow_then (hK60 _ _ _ (by omega) ⟨(i + 1), al2, cl2, PL2, rfl, by omega, by omega, by rw [hPL2, List.map_append, ← hApre]; rfl, hsz, hdf, s_3, s_6, s_8, s_9, s_16, (by first | exact s_17 | (rw [s_17]; congr 2; first | rfl | omega | (push_cast; omega)) | (rw [s_17]; first | rfl | (simp; try omega))), (by first | exact s_18 | (rw [s_18]; congr 2; first | rfl | omega | (push_cast; omega)) | (rw [s_18]; first | rfl | (simp; try omega))), hbW105, rW105_0, rW105_1, rW105_2, rW105_3, (hl2 ▸ fW105_0)⟩)
                · skip
                  obtain ⟨q108, hq108⟩ : ∃ x, x = W97.heap.size := ⟨_, rfl⟩
                  refine ao_run rfl (wanted_none rfl) 149 (.slice (some ⟨q108, 0, none⟩) 1 1) (W97.alloc (.cells (([B8 b] : List Value)).toArray 5)) rfl (by rw [hq108]; exact (bsByte _ (eval_of (put_get _ _ _ (by simp only [put_size]; rw [hsz]; decide))))) ⟨(hbW97.alloc hbW97.size _), (rW97_0.below ((Below.refl _ W97).alloc (Nat.le_refl _) _)), (rW97_1.below ((Below.refl _ W97).alloc (Nat.le_refl _) _)), (rW97_2.below ((Below.refl _ W97).alloc (Nat.le_refl _) _)), (rW97_3.below ((Below.refl _ W97).alloc (Nat.le_refl _) _))⟩ ?_
                  have hqq108 : w.heap.size ≤ q108 := by rw [hq108]; exact hbW97.size
                  have hyq108_par : ∀ k, DBlk (.slice al2 PLm.length cl2) PLm k → k < q108 := fun k hk => by have := (dblk_lt fW97_0 hk).2; omega
                  have hnq108_q1 : q1 < q108 := by rw [hq108]; exact rW97_0.2.2
                  have hnq108_q3 : q3 < q108 := by rw [hq108]; exact rW97_1.2.2
                  have hnq108_q6 : q6 < q108 := by rw [hq108]; exact rW97_2.2.2
                  have hnq108_q9 : q9 < q108 := by rw [hq108]; exact rW97_3.2.2
                  refine fresh (C := fun x W => AH _ _ _ _ _ _ x W) (fun x X => _ = x ∧ Below w.heap.size w X ∧ RowAt X q1 [.int .i64 next, .slice ao L.length cap] ∧ RowAt X q3 [.int .i64 0, .slice none 0 0] ∧ RowAt X q6 (hvRow V) ∧ RowAt X q9 (byRow V) ∧ RowAt X q108 ([B8 b] : List Value) ∧ DOwn KPart 58 X (q9 + 1) (.slice al2 PLm.length cl2) PLm) ⟨rfl, (hbW97.alloc hbW97.size _), (rW97_0.below ((Below.refl _ W97).alloc (Nat.le_refl _) _)), (rW97_1.below ((Below.refl _ W97).alloc (Nat.le_refl _) _)), (rW97_2.below ((Below.refl _ W97).alloc (Nat.le_refl _) _)), (rW97_3.below ((Below.refl _ W97).alloc (Nat.le_refl _) _)), (by rw [hq108]; exact rowAt_alloc _ (([B8 b] : List Value)) _), (fW97_0.below ((Below.refl _ W97).alloc (Nat.le_refl _) _))⟩ ?_
                  rintro _ W109 ⟨rfl, hbW109, rW109_0, rW109_1, rW109_2, rW109_3, rW109_4, fW109_0⟩
                  clear hq108
                  refine ah_one 4 (by kernel_rfl) ?_
                  refine ao_run rfl (wanted_none rfl) 144 (vd0) _ rfl (run_loadOp (eval_of (pf1 (by decide) (pf4 (by decide) (put_get _ _ _ (by simp only [put_size]; rw [hsz]; decide))))) (by simp [go_sem, Instr.loadAt, lastCell2 hA hal2 fW109_0])) ⟨hbW109, rW109_0, rW109_1, rW109_2, rW109_3⟩ ?_
                  refine ah_one 10 (by kernel_rfl) ?_
                  have hb29 : (q9 + 1) ≤ W109.heap.size := rW109_3.2.2
                  have hmem : ((⟨s0, d0⟩ : EP), vd0) ∈ A ++ [((⟨s0, d0⟩ : EP), vd0)] := by simp
                  have hpar := fW109_0
                  rw [hA, hal2] at hpar
                  have hown0 := hpar.dat _ hmem
                  have hd0l := dlen hi3 hPLfin
                  have hslb : Sl W109 (.slice (some ⟨q108, 0, none⟩) 1 1) [b] := sl_row1 rW109_4
                  have hk_q1 : some q1 ≠ vd0.ownBlock := fun e => by have := (blk_lt hown0 e.symm).1; omega
                  have hk_q3 : some q3 ≠ vd0.ownBlock := fun e => by have := (blk_lt hown0 e.symm).1; omega
                  have hk_q6 : some q6 ≠ vd0.ownBlock := fun e => by have := (blk_lt hown0 e.symm).1; omega
                  have hk_q9 : some q9 ≠ vd0.ownBlock := fun e => by have := (blk_lt hown0 e.symm).1; omega
                  refine ao_to rfl (wanted_none rfl) 150 _ rfl (opTo_bytes _ _ rfl (q9 + 1) vd0 d0.length d0 [b] (eval_of (put_get _ _ _ (by simp only [put_size]; rw [hsz]; decide))) hown0 _ (eval_of (pf1 (by decide) (put_get _ _ _ (by simp only [put_size]; rw [hsz]; decide)))) hslb (by omega) (by simp) hb29) ?_
                  rintro vd2 V110 ⟨hgr, hog⟩
                  have hod : V110.ownsRow (q9 + 1) 5 1 vd2 (d0.length + 1) ((d0 ++ [b]).map B8) := hog
                  have hbN := (hbW109.trans ((grew_below hgr hb29 (fun k hk => (blk_lt hown0 hk).1)).mono (by omega)))
                  have rN111 := (rowAt_keep rW109_0 hgr.1 hk_q1)
                  have rN112 := (rowAt_keep rW109_1 hgr.1 hk_q3)
                  have rN113 := (rowAt_keep rW109_2 hgr.1 hk_q6)
                  have rN114 := (rowAt_keep rW109_3 hgr.1 hk_q9)
                  obtain ⟨PL2, hPL2⟩ : ∃ P, P = A ++ [((⟨s0, d0 ++ [b]⟩ : EP), vd2)] := ⟨_, rfl⟩
                  have hl2 : PL2.length = PLm.length := by rw [hPL2, hA]; simp
                  have hpl3 : (A ++ [((⟨s0, d0⟩ : EP), vd0)]).length = PLm.length := by rw [hA]
                  have hgB := (blk_lt hpar.row (k := g) rfl).1
                  have hrow2 := own_stay hpar.row hgr.1 (fun k hk e => hpar.ne _ hmem k e.symm hk)
                  have hpar3 := DOwn.lastApp (x := b) hpar hgr hod
                  rw [← hPL2, ← hal2, hpl3] at hpar3
                  refine ⟨⟨hbN, rN111, rN112, rN113, rN114⟩, ?_⟩
                  refine ah_takeW 11 151 (.pointer (some ⟨g, (A.length * 2), none⟩)) rfl (wanted_none rfl) rfl (by kernel_rfl) (by kernel_rfl) (by kernel_rfl) (fun _ _ _ h => h) ⟨hbN, rN111, rN112, rN113, rN114⟩ (fun W hW => by (try obtain ⟨hbN, rN111, rN112, rN113, rN114⟩ := hW); exact (run_nilOp (eval_of (pf2 (by decide) (pf8 (by decide) (put_get _ _ _ (by rw [hsz]; decide))))))) ?_
                  refine ah_takeW 12 152 (.pointer (some ⟨g, ((A.length * 2) + 1), none⟩)) rfl (wanted_none rfl) rfl (by kernel_rfl) (by kernel_rfl) (by kernel_rfl) (fun _ _ _ h => h) ⟨hbN, rN111, rN112, rN113, rN114⟩ (fun W hW => by (try obtain ⟨hbN, rN111, rN112, rN113, rN114⟩ := hW); exact (run_fieldAddr (eval_of (put_get _ _ _ (by simp only [put_size]; rw [hsz]; decide))) (by simp [go_sem, Instr.fieldAt]))) ?_
                  refine ah_one 13 (by kernel_rfl) ?_
                  refine ao_skip rfl (wanted_none rfl) rfl _ (run_storeOp (eval_of (put_get _ _ _ (by simp only [put_size]; rw [hsz]; decide))) (eval_of (pf2 (by decide) (put_get _ _ _ (by simp only [put_size]; rw [hsz]; decide)))) (run_store1 (own_rowAt hrow2) (lastLt hpar) (by kernel_rfl) (own_one hod))) ⟨(below_set1 hbN (by omega)), (rN111.other (by omega)), (rN112.other (by omega)), (rN113.other (by omega)), (rN114.other (by omega))⟩ ?_
                  refine fresh (C := fun x W => AH _ _ _ _ _ _ x W) (fun x X => _ = x ∧ Below w.heap.size w X ∧ RowAt X q1 [.int .i64 next, .slice ao L.length cap] ∧ RowAt X q3 [.int .i64 0, .slice none 0 0] ∧ RowAt X q6 (hvRow V) ∧ RowAt X q9 (byRow V) ∧ DOwn KPart 58 X (q9 + 1) (.slice al2 PLm.length cl2) PL2) ⟨rfl, (below_set1 hbN (by omega)), (rN111.other (by omega)), (rN112.other (by omega)), (rN113.other (by omega)), (rN114.other (by omega)), hpar3⟩ ?_
                  rintro _ W115 ⟨rfl, hbW115, rW115_0, rW115_1, rW115_2, rW115_3, fW115_0⟩
                  refine fresh (C := fun x W => AH _ _ _ _ _ _ x W) (fun x X => _ = X ∧ x.tmps.size = 167 ∧ x.defers = [] ∧ x.tmps[3]? = some (.pointer (some ⟨q1, 0, none⟩)) ∧ x.tmps[6]? = some (.pointer (some ⟨q3, 0, none⟩)) ∧ x.tmps[8]? = some (.slice (some ⟨q6, 0, none⟩) 2049 2049) ∧ x.tmps[9]? = some (.slice (some ⟨q9, 0, none⟩) 2048 2048) ∧ x.tmps[16]? = some (.int .i64 (((toldN V) : Nat) : Int)) ∧ x.tmps[17]? = some (.slice al2 PLm.length cl2) ∧ x.tmps[18]? = some (.int .i64 ((i : Nat) : Int))) ⟨rfl, (by simp only [put_size]; exact hsz), (by simp only [put_defers]; exact hdf), (pf1 (by decide) (pf4 (by decide) (pf8 (by decide) s_3))), (pf1 (by decide) (pf4 (by decide) (pf8 (by decide) s_6))), (pf1 (by decide) (pf4 (by decide) (pf8 (by decide) s_8))), (pf1 (by decide) (pf4 (by decide) (pf8 (by decide) s_9))), (pf1 (by decide) (pf4 (by decide) (pf8 (by decide) s_16))), (pf1 (by decide) (pf4 (by decide) (pf8 (by decide) s_17))), (pf1 (by decide) (pf4 (by decide) (pf8 (by decide) s_18)))⟩ ?_
                  clear hsz hdf s_3 s_6 s_8 s_9 s_16 s_17 s_18 s_19
                  rintro a _ ⟨rfl, hsz, hdf, s_3, s_6, s_8, s_9, s_16, s_17, s_18⟩
                  refine ah_done (by kernel_rfl) ?_
                  refine ow_blk _ ?_
                  refine ow_then ?_
                  refine ow_region [_, _, _] rfl (by intro o ho; simp only [List.mem_cons, List.not_mem_nil, or_false] at ho; rcases ho with rfl | rfl | rfl <;> rfl) ?_
                  refine ow_run 110 (.int .i64 ((i : Nat) : Int)) _ rfl (run_moveOp (eval_of s_18)) ?_
                  refine ow_run 111 (.int .i64 (((i + 1) : Nat) : Int)) _ rfl (run_binOp (eval_of (put_get _ _ _ (by rw [hsz]; decide))) (eval_cst _ _) (by simp [go_sem]) (addIw _ _ _ _ (by omega) (by omega) (by omega))) ?_
                  refine ow_run 18 (.int .i64 (((i + 1) : Nat) : Int)) _ rfl (run_assignOp (eval_of (put_get _ _ _ (by simp only [put_size]; rw [hsz]; decide)))) ?_
                  refine fresh (C := fun x W => wpRun _ [] x W _) (fun x X => _ = X ∧ x.tmps.size = 167 ∧ x.defers = [] ∧ x.tmps[3]? = some (.pointer (some ⟨q1, 0, none⟩)) ∧ x.tmps[6]? = some (.pointer (some ⟨q3, 0, none⟩)) ∧ x.tmps[8]? = some (.slice (some ⟨q6, 0, none⟩) 2049 2049) ∧ x.tmps[9]? = some (.slice (some ⟨q9, 0, none⟩) 2048 2048) ∧ x.tmps[16]? = some (.int .i64 (((toldN V) : Nat) : Int)) ∧ x.tmps[17]? = some (.slice al2 PLm.length cl2) ∧ x.tmps[18]? = some (.int .i64 (((i + 1) : Nat) : Int))) ⟨rfl, (by simp only [put_size]; exact hsz), (by simp only [put_defers]; exact hdf), (pf1 (by decide) (pf2 (by decide) s_3)), (pf1 (by decide) (pf2 (by decide) s_6)), (pf1 (by decide) (pf2 (by decide) s_8)), (pf1 (by decide) (pf2 (by decide) s_9)), (pf1 (by decide) (pf2 (by decide) s_16)), (pf1 (by decide) (pf2 (by decide) s_17)), (put_get _ _ _ (by simp only [put_size]; rw [hsz]; decide))⟩ ?_
                  clear hsz hdf s_3 s_6 s_8 s_9 s_16 s_17 s_18
                  rintro a _ ⟨rfl, hsz, hdf, s_3, s_6, s_8, s_9, s_16, s_17, s_18⟩
                  exact ow_then (hK60 _ _ _ (by omega) ⟨(i + 1), al2, cl2, PL2, rfl, by omega, by omega, by rw [hPL2, List.map_append, ← hApre]; rfl, hsz, hdf, s_3, s_6, s_8, s_9, s_16, (by first | exact s_17 | (rw [s_17]; congr 2; first | rfl | omega | (push_cast; omega)) | (rw [s_17]; first | rfl | (simp; try omega))), (by first | exact s_18 | (rw [s_18]; congr 2; first | rfl | omega | (push_cast; omega)) | (rw [s_18]; first | rfl | (simp; try omega))), hbW115, rW115_0, rW115_1, rW115_2, rW115_3, (hl2 ▸ fW115_0)⟩)
              · skip
                refine ow_true (eval_of (flag_of s_126 (not_of hb_95))) ?_
                have hnew : partsL V (i + 1) = partsL V i ++ [(i, [b])] := parts_first hti hx (.inr (by rw [hy, isS_none hb_95]))
                refine ow_region [_, _, _, _, _, _, _, _, _] rfl (by intro o ho; simp only [List.mem_cons, List.not_mem_nil, or_false] at ho; rcases ho with rfl | rfl | rfl | rfl | rfl | rfl | rfl | rfl | rfl <;> rfl) ?_
                refine ow_run 127 (.slice al PL.length cl) _ rfl (run_moveOp (eval_of s_17)) ?_
                refine ow_run 128 (.pointer (some ⟨q1, 0, none⟩)) _ rfl (run_fieldAddr (eval_of (pf1 (by decide) s_3)) (by simp [go_sem, Instr.fieldAt])) ?_
                refine ow_run 129 (.int .i64 next) _ rfl (run_loadOp (eval_of (put_get _ _ _ (by simp only [put_size]; rw [hsz]; decide))) (by simp [go_sem, Instr.loadAt, rW58_0.cell (j := 0) rfl])) ?_
                refine ow_run 130 (.int .i64 ((i : Nat) : Int)) _ rfl (run_moveOp (eval_of (pf1 (by decide) (pf2 (by decide) s_18)))) ?_
                refine ow_call 131 (fun v X => v = (.int .i64 (addv next ((i : Nat) : Int))) ∧ W58 = X) rfl _ _ (run_callOp Try.func18 rfl rfl (arr2 (eval_of (pf1 (by decide) (put_get _ _ _ (by simp only [put_size]; rw [hsz]; decide)))) (eval_of (put_get _ _ _ (by simp only [put_size]; rw [hsz]; decide))))) (((radd12_any next ((i : Nat) : Int) W58)).mono fun e X h => ⟨_, h.1, rfl, h.2⟩) ?_
                rintro _ _ ⟨rfl, rfl⟩
                refine ow_run 132 (.agg #[.int .i64 (addv next ((i : Nat) : Int)), .slice none 0 0]) _ rfl (run_buildOp (bp1 (eval_of (put_get _ _ _ (by simp only [put_size]; rw [hsz]; decide)))) (by first | rfl | kernel_rfl)) ?_
                obtain ⟨q118, hq118⟩ : ∃ x, x = W58.heap.size := ⟨_, rfl⟩
                refine ow_run 133 (.slice (some ⟨q118, 0, none⟩) 1 1) (W58.alloc (.cells (([.int .i64 (addv next ((i : Nat) : Int)), .slice none 0 0] : List Value)).toArray 58)) rfl (by rw [hq118]; exact (bsPart _ (eval_of (put_get _ _ _ (by simp only [put_size]; rw [hsz]; decide))))) ?_
                have hqq118 : w.heap.size ≤ q118 := by rw [hq118]; exact hbW58.size
                have hyq118_par : ∀ k, DBlk (.slice al PL.length cl) PL k → k < q118 := fun k hk => by have := (dblk_lt gW58_0 hk).2; omega
                have hnq118_q1 : q1 < q118 := by rw [hq118]; exact rW58_0.2.2
                have hnq118_q3 : q3 < q118 := by rw [hq118]; exact rW58_1.2.2
                have hnq118_q6 : q6 < q118 := by rw [hq118]; exact rW58_2.2.2
                have hnq118_q9 : q9 < q118 := by rw [hq118]; exact rW58_3.2.2
                refine fresh (C := fun x W => wpRun _ _ x W _) (fun x X => _ = x ∧ Below w.heap.size w X ∧ RowAt X q1 [.int .i64 next, .slice ao L.length cap] ∧ RowAt X q3 [.int .i64 0, .slice none 0 0] ∧ RowAt X q6 (hvRow V) ∧ RowAt X q9 (byRow V) ∧ RowAt X q118 ([.int .i64 (addv next ((i : Nat) : Int)), .slice none 0 0] : List Value) ∧ DOwn KPart 58 X (q9 + 1) (.slice al PL.length cl) PL) ⟨rfl, (hbW58.alloc hbW58.size _), (rW58_0.below ((Below.refl _ W58).alloc (Nat.le_refl _) _)), (rW58_1.below ((Below.refl _ W58).alloc (Nat.le_refl _) _)), (rW58_2.below ((Below.refl _ W58).alloc (Nat.le_refl _) _)), (rW58_3.below ((Below.refl _ W58).alloc (Nat.le_refl _) _)), (by rw [hq118]; exact rowAt_alloc _ (([.int .i64 (addv next ((i : Nat) : Int)), .slice none 0 0] : List Value)) _), (gW58_0.below ((Below.refl _ W58).alloc (Nat.le_refl _) _))⟩ ?_
                rintro _ W119 ⟨rfl, hbW119, rW119_0, rW119_1, rW119_2, rW119_3, rW119_4, fW119_0⟩
                clear hq118
                have hb27 : (q9 + 1) ≤ W119.heap.size := rW119_3.2.2
                have hl27 := partsL_le hPL hi2
                refine ow_to 134 rfl (opTo_part _ _ rfl (eval_of (pf2 (by decide) (pf4 (by decide) (put_get _ _ _ (by rw [hsz]; decide))))) fW119_0.row (eval_of (put_get _ _ _ (by simp only [put_size]; rw [hsz]; decide))) rW119_4 rfl (by omega) hb27) ?_
                rintro vl2 V120 ⟨hgr, hog⟩
                obtain ⟨PLm, hPLm⟩ : ∃ P, P = PL ++ [((⟨addv next ((i : Nat) : Int), []⟩ : EP), (.slice none 0 0 : Value))] := ⟨_, rfl⟩
                have hlm : PL.length + 1 = PLm.length := by rw [hPLm]; simp
                have hpar2 := DOwn.snoc (a := (⟨addv next ((i : Nat) : Int), []⟩ : EP)) fW119_0 hb27 (Below.refl _ _) (World.ownsRow_nil _ _ _ _) hog hgr
                rw [← hPLm] at hpar2
                rw [hlm] at hog
                obtain ⟨al2, cl2, rfl⟩ := own_slice hog
                have hk_q1 : some q1 ≠ (.slice al PL.length cl : Value).ownBlock := fun e => by have := (blk_lt fW119_0.row e.symm).1; omega
                have hk_q3 : some q3 ≠ (.slice al PL.length cl : Value).ownBlock := fun e => by have := (blk_lt fW119_0.row e.symm).1; omega
                have hk_q6 : some q6 ≠ (.slice al PL.length cl : Value).ownBlock := fun e => by have := (blk_lt fW119_0.row e.symm).1; omega
                have hk_q9 : some q9 ≠ (.slice al PL.length cl : Value).ownBlock := fun e => by have := (blk_lt fW119_0.row e.symm).1; omega
                have hA : PLm = PL ++ [((⟨addv next ((i : Nat) : Int), []⟩ : EP), (.slice none 0 0 : Value))] := hPLm
                obtain ⟨A, hAe⟩ : ∃ A, A = PL := ⟨_, rfl⟩
                rw [← hAe] at hA
                obtain ⟨s0, hs0⟩ : ∃ s, s = addv next ((i : Nat) : Int) := ⟨_, rfl⟩
                obtain ⟨d0, hd0⟩ : ∃ d : List UInt8, d = [] := ⟨_, rfl⟩
                obtain ⟨vd0, hvd0⟩ : ∃ v : Value, v = .slice none 0 0 := ⟨_, rfl⟩
                rw [← hs0, ← hd0, ← hvd0] at hA
                have hstep : PLm.map Prod.fst = (partsL V i).map (toP next) ++ [⟨s0, d0⟩] := by rw [hA, List.map_append, hAe, hPL]; rfl
                have hnext : (partsL V (i + 1)).map (toP next) = (partsL V i).map (toP next) ++ [⟨s0, d0 ++ [b]⟩] := by rw [hnew, List.map_append, hs0, hd0]; rfl
                refine fresh (C := fun x W => wpRun _ _ x W _) (fun x X => _ = x ∧ Below w.heap.size w X ∧ RowAt X q1 [.int .i64 next, .slice ao L.length cap] ∧ RowAt X q3 [.int .i64 0, .slice none 0 0] ∧ RowAt X q6 (hvRow V) ∧ RowAt X q9 (byRow V) ∧ DOwn KPart 58 X (q9 + 1) (.slice al2 PLm.length cl2) PLm) ⟨rfl, (hbW119.trans ((grew_below hgr hb27 (fun k hk => (blk_lt fW119_0.row hk).1)).mono (by omega))), (rowAt_keep rW119_0 hgr.1 hk_q1), (rowAt_keep rW119_1 hgr.1 hk_q3), (rowAt_keep rW119_2 hgr.1 hk_q6), (rowAt_keep rW119_3 hgr.1 hk_q9), hpar2⟩ ?_
                rintro _ W121 ⟨rfl, hbW121, rW121_0, rW121_1, rW121_2, rW121_3, fW121_0⟩
                refine ow_run 17 (.slice al2 PLm.length cl2) _ rfl (run_assignOp (eval_of (put_get _ _ _ (by simp only [put_size]; rw [hsz]; decide)))) ?_
                refine fresh (C := fun x W => wpRun _ [] x W _) (fun x X => _ = X ∧ x.tmps.size = 167 ∧ x.defers = [] ∧ x.tmps[3]? = some (.pointer (some ⟨q1, 0, none⟩)) ∧ x.tmps[6]? = some (.pointer (some ⟨q3, 0, none⟩)) ∧ x.tmps[8]? = some (.slice (some ⟨q6, 0, none⟩) 2049 2049) ∧ x.tmps[9]? = some (.slice (some ⟨q9, 0, none⟩) 2048 2048) ∧ x.tmps[16]? = some (.int .i64 (((toldN V) : Nat) : Int)) ∧ x.tmps[17]? = some (.slice al2 PLm.length cl2) ∧ x.tmps[18]? = some (.int .i64 ((i : Nat) : Int))) ⟨rfl, (by simp only [put_size]; exact hsz), (by simp only [put_defers]; exact hdf), (pf1 (by decide) (pf8 (by decide) s_3)), (pf1 (by decide) (pf8 (by decide) s_6)), (pf1 (by decide) (pf8 (by decide) s_8)), (pf1 (by decide) (pf8 (by decide) s_9)), (pf1 (by decide) (pf8 (by decide) s_16)), (put_get _ _ _ (by simp only [put_size]; rw [hsz]; decide)), (pf1 (by decide) (pf8 (by decide) s_18))⟩ ?_
                clear hsz hdf s_3 s_6 s_8 s_9 s_16 s_17 s_18 s_126
                rintro a _ ⟨rfl, hsz, hdf, s_3, s_6, s_8, s_9, s_16, s_17, s_18⟩
                refine ow_then ?_
                refine wp_seq ?_
                have hApre : A.map Prod.fst ++ [⟨s0, d0 ++ [b]⟩] = (partsL V (i + 1)).map (toP next) := by rw [hnext, hAe, hPL]
                have hPLfin : A.map Prod.fst ++ [⟨s0, d0 ++ [b]⟩] = (partsL V (i + 1)).map (toP next) := hApre
                have hAl : PLm.length = A.length + 1 := by rw [hA]; simp
                have hpq := fW121_0
                rw [hA] at hpq
                obtain ⟨g, hal2⟩ := own_some hpq
                refine ow_region [_, _, _, _, _, _] rfl (by intro o ho; simp only [List.mem_cons, List.not_mem_nil, or_false] at ho; rcases ho with rfl | rfl | rfl | rfl | rfl | rfl <;> rfl) ?_
                refine ow_run 135 (.slice al2 PLm.length cl2) _ rfl (run_moveOp (eval_of s_17)) ?_
                refine ow_run 136 (.slice al2 PLm.length cl2) _ rfl (run_moveOp (eval_of (pf1 (by decide) s_17))) ?_
                refine ow_run 137 (.int .i64 ((PLm.length : Nat) : Int)) _ rfl (run_lenOp Try.underlying22 (eval_of (put_get _ _ _ (by simp only [put_size]; rw [hsz]; decide)))) ?_
                refine ow_run 138 (.int .i64 ((A.length : Nat) : Int)) _ rfl (run_binOp (eval_of (put_get _ _ _ (by simp only [put_size]; rw [hsz]; decide))) (eval_cst _ _) (by simp [go_sem]) (subIw _ _ _ _ (by omega) (by omega) (by omega))) ?_
                refine ow_run 139 (.pointer (some ⟨g, (A.length * 2), none⟩)) _ rfl (run_indexOp (eval_of (pf1 (by decide) (pf2 (by decide) (put_get _ _ _ (by rw [hsz]; decide))))) (eval_of (put_get _ _ _ (by simp only [put_size]; rw [hsz]; decide))) (idxPart0 hal2 (by omega) _)) ?_
                refine ow_run 19 (.pointer (some ⟨g, (A.length * 2), none⟩)) _ rfl (run_assignOp (eval_of (put_get _ _ _ (by simp only [put_size]; rw [hsz]; decide)))) ?_
                refine fresh (C := fun x W => wpRun _ [] x W _) (fun x X => _ = X ∧ x.tmps.size = 167 ∧ x.defers = [] ∧ x.tmps[3]? = some (.pointer (some ⟨q1, 0, none⟩)) ∧ x.tmps[6]? = some (.pointer (some ⟨q3, 0, none⟩)) ∧ x.tmps[8]? = some (.slice (some ⟨q6, 0, none⟩) 2049 2049) ∧ x.tmps[9]? = some (.slice (some ⟨q9, 0, none⟩) 2048 2048) ∧ x.tmps[16]? = some (.int .i64 (((toldN V) : Nat) : Int)) ∧ x.tmps[17]? = some (.slice al2 PLm.length cl2) ∧ x.tmps[18]? = some (.int .i64 ((i : Nat) : Int)) ∧ x.tmps[19]? = some (.pointer (some ⟨g, (A.length * 2), none⟩))) ⟨rfl, (by simp only [put_size]; exact hsz), (by simp only [put_defers]; exact hdf), (pf2 (by decide) (pf4 (by decide) s_3)), (pf2 (by decide) (pf4 (by decide) s_6)), (pf2 (by decide) (pf4 (by decide) s_8)), (pf2 (by decide) (pf4 (by decide) s_9)), (pf2 (by decide) (pf4 (by decide) s_16)), (pf2 (by decide) (pf4 (by decide) s_17)), (pf2 (by decide) (pf4 (by decide) s_18)), (put_get _ _ _ (by simp only [put_size]; rw [hsz]; decide))⟩ ?_
                clear hsz hdf s_3 s_6 s_8 s_9 s_16 s_17 s_18
                rintro a _ ⟨rfl, hsz, hdf, s_3, s_6, s_8, s_9, s_16, s_17, s_18, s_19⟩
                refine ow_then ?_
                refine ah_region (fun W => Below w.heap.size w W ∧ RowAt W q1 [.int .i64 next, .slice ao L.length cap] ∧ RowAt W q3 [.int .i64 0, .slice none 0 0] ∧ RowAt W q6 (hvRow V) ∧ RowAt W q9 (byRow V)) (by kernel_rfl) 14 rfl ?_
                refine fresh (C := fun x W => AH _ _ _ _ _ _ x W) (fun x X => _ = x ∧ Below w.heap.size w X ∧ RowAt X q1 [.int .i64 next, .slice ao L.length cap] ∧ RowAt X q3 [.int .i64 0, .slice none 0 0] ∧ RowAt X q6 (hvRow V) ∧ RowAt X q9 (byRow V) ∧ DOwn KPart 58 X (q9 + 1) (.slice al2 PLm.length cl2) PLm) ⟨rfl, (hbW121.trans (((Below.refl _ W121).drew).mono hbW121.size)), (rW121_0.below ((Below.refl _ W121).drew)), (rW121_1.below ((Below.refl _ W121).drew)), (rW121_2.below ((Below.refl _ W121).drew)), (rW121_3.below ((Below.refl _ W121).drew)), (fW121_0.below ((Below.refl _ W121).drew))⟩ ?_
                rintro _ W124 ⟨rfl, hbW124, rW124_0, rW124_1, rW124_2, rW124_3, fW124_0⟩
                refine ah_takeW 0 140 (.pointer (some ⟨g, (A.length * 2), none⟩)) rfl (wanted_none rfl) rfl (by kernel_rfl) (by kernel_rfl) (by kernel_rfl) (fun _ _ _ h => h) ⟨hbW124, rW124_0, rW124_1, rW124_2, rW124_3⟩ (fun W hW => by (try obtain ⟨hbW124, rW124_0, rW124_1, rW124_2, rW124_3⟩ := hW); exact (run_moveOp (eval_of s_19))) ?_
                refine ah_takeW 1 141 (.pointer (some ⟨g, (A.length * 2), none⟩)) rfl (wanted_none rfl) rfl (by kernel_rfl) (by kernel_rfl) (by kernel_rfl) (fun _ _ _ h => h) ⟨hbW124, rW124_0, rW124_1, rW124_2, rW124_3⟩ (fun W hW => by (try obtain ⟨hbW124, rW124_0, rW124_1, rW124_2, rW124_3⟩ := hW); exact (run_moveOp (eval_of (pf1 (by decide) s_19)))) ?_
                refine ah_takeW 2 142 (.pointer (some ⟨g, (A.length * 2), none⟩)) rfl (wanted_none rfl) rfl (by kernel_rfl) (by kernel_rfl) (by kernel_rfl) (fun _ _ _ h => h) ⟨hbW124, rW124_0, rW124_1, rW124_2, rW124_3⟩ (fun W hW => by (try obtain ⟨hbW124, rW124_0, rW124_1, rW124_2, rW124_3⟩ := hW); exact (run_nilOp (eval_of (put_get _ _ _ (by simp only [put_size]; rw [hsz]; decide))))) ?_
                refine ah_takeW 3 143 (.pointer (some ⟨g, ((A.length * 2) + 1), none⟩)) rfl (wanted_none rfl) rfl (by kernel_rfl) (by kernel_rfl) (by kernel_rfl) (fun _ _ _ h => h) ⟨hbW124, rW124_0, rW124_1, rW124_2, rW124_3⟩ (fun W hW => by (try obtain ⟨hbW124, rW124_0, rW124_1, rW124_2, rW124_3⟩ := hW); exact (run_fieldAddr (eval_of (put_get _ _ _ (by simp only [put_size]; rw [hsz]; decide))) (by simp [go_sem, Instr.fieldAt]))) ?_
                refine ah_takeW 5 145 (.slice (some ⟨q9, 0, none⟩) 2048 2048) rfl (wanted_none rfl) rfl (by kernel_rfl) (by kernel_rfl) (by kernel_rfl) (fun _ _ _ h => h) ⟨hbW124, rW124_0, rW124_1, rW124_2, rW124_3⟩ (fun W hW => by (try obtain ⟨hbW124, rW124_0, rW124_1, rW124_2, rW124_3⟩ := hW); exact (run_moveOp (eval_of (pf4 (by decide) s_9)))) ?_
                refine ah_takeW 6 146 (.int .i64 ((i : Nat) : Int)) rfl (wanted_none rfl) rfl (by kernel_rfl) (by kernel_rfl) (by kernel_rfl) (fun _ _ _ h => h) ⟨hbW124, rW124_0, rW124_1, rW124_2, rW124_3⟩ (fun W hW => by (try obtain ⟨hbW124, rW124_0, rW124_1, rW124_2, rW124_3⟩ := hW); exact (run_moveOp (eval_of (pf1 (by decide) (pf4 (by decide) s_18))))) ?_
                refine ah_takeW 7 147 (.pointer (some ⟨q9, i, none⟩)) rfl (wanted_none rfl) rfl (by kernel_rfl) (by kernel_rfl) (by kernel_rfl) (fun _ _ _ h => h) ⟨hbW124, rW124_0, rW124_1, rW124_2, rW124_3⟩ (fun W hW => by (try obtain ⟨hbW124, rW124_0, rW124_1, rW124_2, rW124_3⟩ := hW); exact (run_indexOp (eval_of (pf1 (by decide) (put_get _ _ _ (by simp only [put_size]; rw [hsz]; decide)))) (eval_of (put_get _ _ _ (by simp only [put_size]; rw [hsz]; decide))) (idxByteRow _ _ _ _ (by omega) _))) ?_
                refine ah_takeW 8 148 (.int .u8 (b.toNat : Int)) rfl (wanted_none rfl) rfl (by kernel_rfl) (by kernel_rfl) (by kernel_rfl) (fun _ _ _ h => h) ⟨hbW124, rW124_0, rW124_1, rW124_2, rW124_3⟩ (fun W hW => by (try obtain ⟨hbW124, rW124_0, rW124_1, rW124_2, rW124_3⟩ := hW); exact (run_loadOp (eval_of (put_get _ _ _ (by simp only [put_size]; rw [hsz]; decide))) (by simp [go_sem, Instr.loadAt, rW124_3.1 _ _ (by_get hVb), B8, byt]))) ?_
                refine ah_two 4 9 (by kernel_rfl) ?_ ?_
                · skip
                  refine ao_run rfl (wanted_none rfl) 144 (vd0) _ rfl (run_loadOp (eval_of (pf4 (by decide) (put_get _ _ _ (by simp only [put_size]; rw [hsz]; decide)))) (by simp [go_sem, Instr.loadAt, lastCell2 hA hal2 fW124_0])) ⟨hbW124, rW124_0, rW124_1, rW124_2, rW124_3⟩ ?_
                  refine ah_one 9 (by kernel_rfl) ?_
                  obtain ⟨q125, hq125⟩ : ∃ x, x = W124.heap.size := ⟨_, rfl⟩
                  refine ao_run rfl (wanted_none rfl) 149 (.slice (some ⟨q125, 0, none⟩) 1 1) (W124.alloc (.cells (([B8 b] : List Value)).toArray 5)) rfl (by rw [hq125]; exact (bsByte _ (eval_of (pf1 (by decide) (put_get _ _ _ (by simp only [put_size]; rw [hsz]; decide)))))) ⟨(hbW124.alloc hbW124.size _), (rW124_0.below ((Below.refl _ W124).alloc (Nat.le_refl _) _)), (rW124_1.below ((Below.refl _ W124).alloc (Nat.le_refl _) _)), (rW124_2.below ((Below.refl _ W124).alloc (Nat.le_refl _) _)), (rW124_3.below ((Below.refl _ W124).alloc (Nat.le_refl _) _))⟩ ?_
                  have hqq125 : w.heap.size ≤ q125 := by rw [hq125]; exact hbW124.size
                  have hyq125_par : ∀ k, DBlk (.slice al2 PLm.length cl2) PLm k → k < q125 := fun k hk => by have := (dblk_lt fW124_0 hk).2; omega
                  have hnq125_q1 : q1 < q125 := by rw [hq125]; exact rW124_0.2.2
                  have hnq125_q3 : q3 < q125 := by rw [hq125]; exact rW124_1.2.2
                  have hnq125_q6 : q6 < q125 := by rw [hq125]; exact rW124_2.2.2
                  have hnq125_q9 : q9 < q125 := by rw [hq125]; exact rW124_3.2.2
                  refine fresh (C := fun x W => AH _ _ _ _ _ _ x W) (fun x X => _ = x ∧ Below w.heap.size w X ∧ RowAt X q1 [.int .i64 next, .slice ao L.length cap] ∧ RowAt X q3 [.int .i64 0, .slice none 0 0] ∧ RowAt X q6 (hvRow V) ∧ RowAt X q9 (byRow V) ∧ RowAt X q125 ([B8 b] : List Value) ∧ DOwn KPart 58 X (q9 + 1) (.slice al2 PLm.length cl2) PLm) ⟨rfl, (hbW124.alloc hbW124.size _), (rW124_0.below ((Below.refl _ W124).alloc (Nat.le_refl _) _)), (rW124_1.below ((Below.refl _ W124).alloc (Nat.le_refl _) _)), (rW124_2.below ((Below.refl _ W124).alloc (Nat.le_refl _) _)), (rW124_3.below ((Below.refl _ W124).alloc (Nat.le_refl _) _)), (by rw [hq125]; exact rowAt_alloc _ (([B8 b] : List Value)) _), (fW124_0.below ((Below.refl _ W124).alloc (Nat.le_refl _) _))⟩ ?_
                  rintro _ W126 ⟨rfl, hbW126, rW126_0, rW126_1, rW126_2, rW126_3, rW126_4, fW126_0⟩
                  clear hq125
                  refine ah_one 10 (by kernel_rfl) ?_
                  have hb29 : (q9 + 1) ≤ W126.heap.size := rW126_3.2.2
                  have hmem : ((⟨s0, d0⟩ : EP), vd0) ∈ A ++ [((⟨s0, d0⟩ : EP), vd0)] := by simp
                  have hpar := fW126_0
                  rw [hA, hal2] at hpar
                  have hown0 := hpar.dat _ hmem
                  have hd0l := dlen hi3 hPLfin
                  have hslb : Sl W126 (.slice (some ⟨q125, 0, none⟩) 1 1) [b] := sl_row1 rW126_4
                  have hk_q1 : some q1 ≠ vd0.ownBlock := fun e => by have := (blk_lt hown0 e.symm).1; omega
                  have hk_q3 : some q3 ≠ vd0.ownBlock := fun e => by have := (blk_lt hown0 e.symm).1; omega
                  have hk_q6 : some q6 ≠ vd0.ownBlock := fun e => by have := (blk_lt hown0 e.symm).1; omega
                  have hk_q9 : some q9 ≠ vd0.ownBlock := fun e => by have := (blk_lt hown0 e.symm).1; omega
                  refine ao_to rfl (wanted_none rfl) 150 _ rfl (opTo_bytes _ _ rfl (q9 + 1) vd0 d0.length d0 [b] (eval_of (pf1 (by decide) (put_get _ _ _ (by simp only [put_size]; rw [hsz]; decide)))) hown0 _ (eval_of (put_get _ _ _ (by simp only [put_size]; rw [hsz]; decide))) hslb (by omega) (by simp) hb29) ?_
                  rintro vd2 V127 ⟨hgr, hog⟩
                  have hod : V127.ownsRow (q9 + 1) 5 1 vd2 (d0.length + 1) ((d0 ++ [b]).map B8) := hog
                  have hbN := (hbW126.trans ((grew_below hgr hb29 (fun k hk => (blk_lt hown0 hk).1)).mono (by omega)))
                  have rN128 := (rowAt_keep rW126_0 hgr.1 hk_q1)
                  have rN129 := (rowAt_keep rW126_1 hgr.1 hk_q3)
                  have rN130 := (rowAt_keep rW126_2 hgr.1 hk_q6)
                  have rN131 := (rowAt_keep rW126_3 hgr.1 hk_q9)
                  obtain ⟨PL2, hPL2⟩ : ∃ P, P = A ++ [((⟨s0, d0 ++ [b]⟩ : EP), vd2)] := ⟨_, rfl⟩
                  have hl2 : PL2.length = PLm.length := by rw [hPL2, hA]; simp
                  have hpl3 : (A ++ [((⟨s0, d0⟩ : EP), vd0)]).length = PLm.length := by rw [hA]
                  have hgB := (blk_lt hpar.row (k := g) rfl).1
                  have hrow2 := own_stay hpar.row hgr.1 (fun k hk e => hpar.ne _ hmem k e.symm hk)
                  have hpar3 := DOwn.lastApp (x := b) hpar hgr hod
                  rw [← hPL2, ← hal2, hpl3] at hpar3
                  refine ⟨⟨hbN, rN128, rN129, rN130, rN131⟩, ?_⟩
                  refine ah_takeW 11 151 (.pointer (some ⟨g, (A.length * 2), none⟩)) rfl (wanted_none rfl) rfl (by kernel_rfl) (by kernel_rfl) (by kernel_rfl) (fun _ _ _ h => h) ⟨hbN, rN128, rN129, rN130, rN131⟩ (fun W hW => by (try obtain ⟨hbN, rN128, rN129, rN130, rN131⟩ := hW); exact (run_nilOp (eval_of (pf2 (by decide) (pf8 (by decide) (put_get _ _ _ (by rw [hsz]; decide))))))) ?_
                  refine ah_takeW 12 152 (.pointer (some ⟨g, ((A.length * 2) + 1), none⟩)) rfl (wanted_none rfl) rfl (by kernel_rfl) (by kernel_rfl) (by kernel_rfl) (fun _ _ _ h => h) ⟨hbN, rN128, rN129, rN130, rN131⟩ (fun W hW => by (try obtain ⟨hbN, rN128, rN129, rN130, rN131⟩ := hW); exact (run_fieldAddr (eval_of (put_get _ _ _ (by simp only [put_size]; rw [hsz]; decide))) (by simp [go_sem, Instr.fieldAt]))) ?_
                  refine ah_one 13 (by kernel_rfl) ?_
                  refine ao_skip rfl (wanted_none rfl) rfl _ (run_storeOp (eval_of (put_get _ _ _ (by simp only [put_size]; rw [hsz]; decide))) (eval_of (pf2 (by decide) (put_get _ _ _ (by simp only [put_size]; rw [hsz]; decide)))) (run_store1 (own_rowAt hrow2) (lastLt hpar) (by kernel_rfl) (own_one hod))) ⟨(below_set1 hbN (by omega)), (rN128.other (by omega)), (rN129.other (by omega)), (rN130.other (by omega)), (rN131.other (by omega))⟩ ?_
                  refine fresh (C := fun x W => AH _ _ _ _ _ _ x W) (fun x X => _ = x ∧ Below w.heap.size w X ∧ RowAt X q1 [.int .i64 next, .slice ao L.length cap] ∧ RowAt X q3 [.int .i64 0, .slice none 0 0] ∧ RowAt X q6 (hvRow V) ∧ RowAt X q9 (byRow V) ∧ DOwn KPart 58 X (q9 + 1) (.slice al2 PLm.length cl2) PL2) ⟨rfl, (below_set1 hbN (by omega)), (rN128.other (by omega)), (rN129.other (by omega)), (rN130.other (by omega)), (rN131.other (by omega)), hpar3⟩ ?_
                  rintro _ W132 ⟨rfl, hbW132, rW132_0, rW132_1, rW132_2, rW132_3, fW132_0⟩
                  refine fresh (C := fun x W => AH _ _ _ _ _ _ x W) (fun x X => _ = X ∧ x.tmps.size = 167 ∧ x.defers = [] ∧ x.tmps[3]? = some (.pointer (some ⟨q1, 0, none⟩)) ∧ x.tmps[6]? = some (.pointer (some ⟨q3, 0, none⟩)) ∧ x.tmps[8]? = some (.slice (some ⟨q6, 0, none⟩) 2049 2049) ∧ x.tmps[9]? = some (.slice (some ⟨q9, 0, none⟩) 2048 2048) ∧ x.tmps[16]? = some (.int .i64 (((toldN V) : Nat) : Int)) ∧ x.tmps[17]? = some (.slice al2 PLm.length cl2) ∧ x.tmps[18]? = some (.int .i64 ((i : Nat) : Int))) ⟨rfl, (by simp only [put_size]; exact hsz), (by simp only [put_defers]; exact hdf), (pf1 (by decide) (pf4 (by decide) (pf8 (by decide) s_3))), (pf1 (by decide) (pf4 (by decide) (pf8 (by decide) s_6))), (pf1 (by decide) (pf4 (by decide) (pf8 (by decide) s_8))), (pf1 (by decide) (pf4 (by decide) (pf8 (by decide) s_9))), (pf1 (by decide) (pf4 (by decide) (pf8 (by decide) s_16))), (pf1 (by decide) (pf4 (by decide) (pf8 (by decide) s_17))), (pf1 (by decide) (pf4 (by decide) (pf8 (by decide) s_18)))⟩ ?_
                  clear hsz hdf s_3 s_6 s_8 s_9 s_16 s_17 s_18 s_19
                  rintro a _ ⟨rfl, hsz, hdf, s_3, s_6, s_8, s_9, s_16, s_17, s_18⟩
                  refine ah_done (by kernel_rfl) ?_
                  refine ow_blk _ ?_
                  refine ow_then ?_
                  refine ow_region [_, _, _] rfl (by intro o ho; simp only [List.mem_cons, List.not_mem_nil, or_false] at ho; rcases ho with rfl | rfl | rfl <;> rfl) ?_
                  refine ow_run 110 (.int .i64 ((i : Nat) : Int)) _ rfl (run_moveOp (eval_of s_18)) ?_
                  refine ow_run 111 (.int .i64 (((i + 1) : Nat) : Int)) _ rfl (run_binOp (eval_of (put_get _ _ _ (by rw [hsz]; decide))) (eval_cst _ _) (by simp [go_sem]) (addIw _ _ _ _ (by omega) (by omega) (by omega))) ?_
                  refine ow_run 18 (.int .i64 (((i + 1) : Nat) : Int)) _ rfl (run_assignOp (eval_of (put_get _ _ _ (by simp only [put_size]; rw [hsz]; decide)))) ?_
                  refine fresh (C := fun x W => wpRun _ [] x W _) (fun x X => _ = X ∧ x.tmps.size = 167 ∧ x.defers = [] ∧ x.tmps[3]? = some (.pointer (some ⟨q1, 0, none⟩)) ∧ x.tmps[6]? = some (.pointer (some ⟨q3, 0, none⟩)) ∧ x.tmps[8]? = some (.slice (some ⟨q6, 0, none⟩) 2049 2049) ∧ x.tmps[9]? = some (.slice (some ⟨q9, 0, none⟩) 2048 2048) ∧ x.tmps[16]? = some (.int .i64 (((toldN V) : Nat) : Int)) ∧ x.tmps[17]? = some (.slice al2 PLm.length cl2) ∧ x.tmps[18]? = some (.int .i64 (((i + 1) : Nat) : Int))) ⟨rfl, (by simp only [put_size]; exact hsz), (by simp only [put_defers]; exact hdf), (pf1 (by decide) (pf2 (by decide) s_3)), (pf1 (by decide) (pf2 (by decide) s_6)), (pf1 (by decide) (pf2 (by decide) s_8)), (pf1 (by decide) (pf2 (by decide) s_9)), (pf1 (by decide) (pf2 (by decide) s_16)), (pf1 (by decide) (pf2 (by decide) s_17)), (put_get _ _ _ (by simp only [put_size]; rw [hsz]; decide))⟩ ?_
                  clear hsz hdf s_3 s_6 s_8 s_9 s_16 s_17 s_18
                  rintro a _ ⟨rfl, hsz, hdf, s_3, s_6, s_8, s_9, s_16, s_17, s_18⟩
                  exact ow_then (hK60 _ _ _ (by omega) ⟨(i + 1), al2, cl2, PL2, rfl, by omega, by omega, by rw [hPL2, List.map_append, ← hApre]; rfl, hsz, hdf, s_3, s_6, s_8, s_9, s_16, (by first | exact s_17 | (rw [s_17]; congr 2; first | rfl | omega | (push_cast; omega)) | (rw [s_17]; first | rfl | (simp; try omega))), (by first | exact s_18 | (rw [s_18]; congr 2; first | rfl | omega | (push_cast; omega)) | (rw [s_18]; first | rfl | (simp; try omega))), hbW132, rW132_0, rW132_1, rW132_2, rW132_3, (hl2 ▸ fW132_0)⟩)
                · skip
                  obtain ⟨q135, hq135⟩ : ∃ x, x = W124.heap.size := ⟨_, rfl⟩
                  refine ao_run rfl (wanted_none rfl) 149 (.slice (some ⟨q135, 0, none⟩) 1 1) (W124.alloc (.cells (([B8 b] : List Value)).toArray 5)) rfl (by rw [hq135]; exact (bsByte _ (eval_of (put_get _ _ _ (by simp only [put_size]; rw [hsz]; decide))))) ⟨(hbW124.alloc hbW124.size _), (rW124_0.below ((Below.refl _ W124).alloc (Nat.le_refl _) _)), (rW124_1.below ((Below.refl _ W124).alloc (Nat.le_refl _) _)), (rW124_2.below ((Below.refl _ W124).alloc (Nat.le_refl _) _)), (rW124_3.below ((Below.refl _ W124).alloc (Nat.le_refl _) _))⟩ ?_
                  have hqq135 : w.heap.size ≤ q135 := by rw [hq135]; exact hbW124.size
                  have hyq135_par : ∀ k, DBlk (.slice al2 PLm.length cl2) PLm k → k < q135 := fun k hk => by have := (dblk_lt fW124_0 hk).2; omega
                  have hnq135_q1 : q1 < q135 := by rw [hq135]; exact rW124_0.2.2
                  have hnq135_q3 : q3 < q135 := by rw [hq135]; exact rW124_1.2.2
                  have hnq135_q6 : q6 < q135 := by rw [hq135]; exact rW124_2.2.2
                  have hnq135_q9 : q9 < q135 := by rw [hq135]; exact rW124_3.2.2
                  refine fresh (C := fun x W => AH _ _ _ _ _ _ x W) (fun x X => _ = x ∧ Below w.heap.size w X ∧ RowAt X q1 [.int .i64 next, .slice ao L.length cap] ∧ RowAt X q3 [.int .i64 0, .slice none 0 0] ∧ RowAt X q6 (hvRow V) ∧ RowAt X q9 (byRow V) ∧ RowAt X q135 ([B8 b] : List Value) ∧ DOwn KPart 58 X (q9 + 1) (.slice al2 PLm.length cl2) PLm) ⟨rfl, (hbW124.alloc hbW124.size _), (rW124_0.below ((Below.refl _ W124).alloc (Nat.le_refl _) _)), (rW124_1.below ((Below.refl _ W124).alloc (Nat.le_refl _) _)), (rW124_2.below ((Below.refl _ W124).alloc (Nat.le_refl _) _)), (rW124_3.below ((Below.refl _ W124).alloc (Nat.le_refl _) _)), (by rw [hq135]; exact rowAt_alloc _ (([B8 b] : List Value)) _), (fW124_0.below ((Below.refl _ W124).alloc (Nat.le_refl _) _))⟩ ?_
                  rintro _ W136 ⟨rfl, hbW136, rW136_0, rW136_1, rW136_2, rW136_3, rW136_4, fW136_0⟩
                  clear hq135
                  refine ah_one 4 (by kernel_rfl) ?_
                  refine ao_run rfl (wanted_none rfl) 144 (vd0) _ rfl (run_loadOp (eval_of (pf1 (by decide) (pf4 (by decide) (put_get _ _ _ (by simp only [put_size]; rw [hsz]; decide))))) (by simp [go_sem, Instr.loadAt, lastCell2 hA hal2 fW136_0])) ⟨hbW136, rW136_0, rW136_1, rW136_2, rW136_3⟩ ?_
                  refine ah_one 10 (by kernel_rfl) ?_
                  have hb29 : (q9 + 1) ≤ W136.heap.size := rW136_3.2.2
                  have hmem : ((⟨s0, d0⟩ : EP), vd0) ∈ A ++ [((⟨s0, d0⟩ : EP), vd0)] := by simp
                  have hpar := fW136_0
                  rw [hA, hal2] at hpar
                  have hown0 := hpar.dat _ hmem
                  have hd0l := dlen hi3 hPLfin
                  have hslb : Sl W136 (.slice (some ⟨q135, 0, none⟩) 1 1) [b] := sl_row1 rW136_4
                  have hk_q1 : some q1 ≠ vd0.ownBlock := fun e => by have := (blk_lt hown0 e.symm).1; omega
                  have hk_q3 : some q3 ≠ vd0.ownBlock := fun e => by have := (blk_lt hown0 e.symm).1; omega
                  have hk_q6 : some q6 ≠ vd0.ownBlock := fun e => by have := (blk_lt hown0 e.symm).1; omega
                  have hk_q9 : some q9 ≠ vd0.ownBlock := fun e => by have := (blk_lt hown0 e.symm).1; omega
                  refine ao_to rfl (wanted_none rfl) 150 _ rfl (opTo_bytes _ _ rfl (q9 + 1) vd0 d0.length d0 [b] (eval_of (put_get _ _ _ (by simp only [put_size]; rw [hsz]; decide))) hown0 _ (eval_of (pf1 (by decide) (put_get _ _ _ (by simp only [put_size]; rw [hsz]; decide)))) hslb (by omega) (by simp) hb29) ?_
                  rintro vd2 V137 ⟨hgr, hog⟩
                  have hod : V137.ownsRow (q9 + 1) 5 1 vd2 (d0.length + 1) ((d0 ++ [b]).map B8) := hog
                  have hbN := (hbW136.trans ((grew_below hgr hb29 (fun k hk => (blk_lt hown0 hk).1)).mono (by omega)))
                  have rN138 := (rowAt_keep rW136_0 hgr.1 hk_q1)
                  have rN139 := (rowAt_keep rW136_1 hgr.1 hk_q3)
                  have rN140 := (rowAt_keep rW136_2 hgr.1 hk_q6)
                  have rN141 := (rowAt_keep rW136_3 hgr.1 hk_q9)
                  obtain ⟨PL2, hPL2⟩ : ∃ P, P = A ++ [((⟨s0, d0 ++ [b]⟩ : EP), vd2)] := ⟨_, rfl⟩
                  have hl2 : PL2.length = PLm.length := by rw [hPL2, hA]; simp
                  have hpl3 : (A ++ [((⟨s0, d0⟩ : EP), vd0)]).length = PLm.length := by rw [hA]
                  have hgB := (blk_lt hpar.row (k := g) rfl).1
                  have hrow2 := own_stay hpar.row hgr.1 (fun k hk e => hpar.ne _ hmem k e.symm hk)
                  have hpar3 := DOwn.lastApp (x := b) hpar hgr hod
                  rw [← hPL2, ← hal2, hpl3] at hpar3
                  refine ⟨⟨hbN, rN138, rN139, rN140, rN141⟩, ?_⟩
                  refine ah_takeW 11 151 (.pointer (some ⟨g, (A.length * 2), none⟩)) rfl (wanted_none rfl) rfl (by kernel_rfl) (by kernel_rfl) (by kernel_rfl) (fun _ _ _ h => h) ⟨hbN, rN138, rN139, rN140, rN141⟩ (fun W hW => by (try obtain ⟨hbN, rN138, rN139, rN140, rN141⟩ := hW); exact (run_nilOp (eval_of (pf2 (by decide) (pf8 (by decide) (put_get _ _ _ (by rw [hsz]; decide))))))) ?_
                  refine ah_takeW 12 152 (.pointer (some ⟨g, ((A.length * 2) + 1), none⟩)) rfl (wanted_none rfl) rfl (by kernel_rfl) (by kernel_rfl) (by kernel_rfl) (fun _ _ _ h => h) ⟨hbN, rN138, rN139, rN140, rN141⟩ (fun W hW => by (try obtain ⟨hbN, rN138, rN139, rN140, rN141⟩ := hW); exact (run_fieldAddr (eval_of (put_get _ _ _ (by simp only [put_size]; rw [hsz]; decide))) (by simp [go_sem, Instr.fieldAt]))) ?_
                  refine ah_one 13 (by kernel_rfl) ?_
                  refine ao_skip rfl (wanted_none rfl) rfl _ (run_storeOp (eval_of (put_get _ _ _ (by simp only [put_size]; rw [hsz]; decide))) (eval_of (pf2 (by decide) (put_get _ _ _ (by simp only [put_size]; rw [hsz]; decide)))) (run_store1 (own_rowAt hrow2) (lastLt hpar) (by kernel_rfl) (own_one hod))) ⟨(below_set1 hbN (by omega)), (rN138.other (by omega)), (rN139.other (by omega)), (rN140.other (by omega)), (rN141.other (by omega))⟩ ?_
                  refine fresh (C := fun x W => AH _ _ _ _ _ _ x W) (fun x X => _ = x ∧ Below w.heap.size w X ∧ RowAt X q1 [.int .i64 next, .slice ao L.length cap] ∧ RowAt X q3 [.int .i64 0, .slice none 0 0] ∧ RowAt X q6 (hvRow V) ∧ RowAt X q9 (byRow V) ∧ DOwn KPart 58 X (q9 + 1) (.slice al2 PLm.length cl2) PL2) ⟨rfl, (below_set1 hbN (by omega)), (rN138.other (by omega)), (rN139.other (by omega)), (rN140.other (by omega)), (rN141.other (by omega)), hpar3⟩ ?_
                  rintro _ W142 ⟨rfl, hbW142, rW142_0, rW142_1, rW142_2, rW142_3, fW142_0⟩
                  refine fresh (C := fun x W => AH _ _ _ _ _ _ x W) (fun x X => _ = X ∧ x.tmps.size = 167 ∧ x.defers = [] ∧ x.tmps[3]? = some (.pointer (some ⟨q1, 0, none⟩)) ∧ x.tmps[6]? = some (.pointer (some ⟨q3, 0, none⟩)) ∧ x.tmps[8]? = some (.slice (some ⟨q6, 0, none⟩) 2049 2049) ∧ x.tmps[9]? = some (.slice (some ⟨q9, 0, none⟩) 2048 2048) ∧ x.tmps[16]? = some (.int .i64 (((toldN V) : Nat) : Int)) ∧ x.tmps[17]? = some (.slice al2 PLm.length cl2) ∧ x.tmps[18]? = some (.int .i64 ((i : Nat) : Int))) ⟨rfl, (by simp only [put_size]; exact hsz), (by simp only [put_defers]; exact hdf), (pf1 (by decide) (pf4 (by decide) (pf8 (by decide) s_3))), (pf1 (by decide) (pf4 (by decide) (pf8 (by decide) s_6))), (pf1 (by decide) (pf4 (by decide) (pf8 (by decide) s_8))), (pf1 (by decide) (pf4 (by decide) (pf8 (by decide) s_9))), (pf1 (by decide) (pf4 (by decide) (pf8 (by decide) s_16))), (pf1 (by decide) (pf4 (by decide) (pf8 (by decide) s_17))), (pf1 (by decide) (pf4 (by decide) (pf8 (by decide) s_18)))⟩ ?_
                  clear hsz hdf s_3 s_6 s_8 s_9 s_16 s_17 s_18 s_19
                  rintro a _ ⟨rfl, hsz, hdf, s_3, s_6, s_8, s_9, s_16, s_17, s_18⟩
                  refine ah_done (by kernel_rfl) ?_
                  refine ow_blk _ ?_
                  refine ow_then ?_
                  refine ow_region [_, _, _] rfl (by intro o ho; simp only [List.mem_cons, List.not_mem_nil, or_false] at ho; rcases ho with rfl | rfl | rfl <;> rfl) ?_
                  refine ow_run 110 (.int .i64 ((i : Nat) : Int)) _ rfl (run_moveOp (eval_of s_18)) ?_
                  refine ow_run 111 (.int .i64 (((i + 1) : Nat) : Int)) _ rfl (run_binOp (eval_of (put_get _ _ _ (by rw [hsz]; decide))) (eval_cst _ _) (by simp [go_sem]) (addIw _ _ _ _ (by omega) (by omega) (by omega))) ?_
                  refine ow_run 18 (.int .i64 (((i + 1) : Nat) : Int)) _ rfl (run_assignOp (eval_of (put_get _ _ _ (by simp only [put_size]; rw [hsz]; decide)))) ?_
                  refine fresh (C := fun x W => wpRun _ [] x W _) (fun x X => _ = X ∧ x.tmps.size = 167 ∧ x.defers = [] ∧ x.tmps[3]? = some (.pointer (some ⟨q1, 0, none⟩)) ∧ x.tmps[6]? = some (.pointer (some ⟨q3, 0, none⟩)) ∧ x.tmps[8]? = some (.slice (some ⟨q6, 0, none⟩) 2049 2049) ∧ x.tmps[9]? = some (.slice (some ⟨q9, 0, none⟩) 2048 2048) ∧ x.tmps[16]? = some (.int .i64 (((toldN V) : Nat) : Int)) ∧ x.tmps[17]? = some (.slice al2 PLm.length cl2) ∧ x.tmps[18]? = some (.int .i64 (((i + 1) : Nat) : Int))) ⟨rfl, (by simp only [put_size]; exact hsz), (by simp only [put_defers]; exact hdf), (pf1 (by decide) (pf2 (by decide) s_3)), (pf1 (by decide) (pf2 (by decide) s_6)), (pf1 (by decide) (pf2 (by decide) s_8)), (pf1 (by decide) (pf2 (by decide) s_9)), (pf1 (by decide) (pf2 (by decide) s_16)), (pf1 (by decide) (pf2 (by decide) s_17)), (put_get _ _ _ (by simp only [put_size]; rw [hsz]; decide))⟩ ?_
                  clear hsz hdf s_3 s_6 s_8 s_9 s_16 s_17 s_18
                  rintro a _ ⟨rfl, hsz, hdf, s_3, s_6, s_8, s_9, s_16, s_17, s_18⟩
                  exact ow_then (hK60 _ _ _ (by omega) ⟨(i + 1), al2, cl2, PL2, rfl, by omega, by omega, by rw [hPL2, List.map_append, ← hApre]; rfl, hsz, hdf, s_3, s_6, s_8, s_9, s_16, (by first | exact s_17 | (rw [s_17]; congr 2; first | rfl | omega | (push_cast; omega)) | (rw [s_17]; first | rfl | (simp; try omega))), (by first | exact s_18 | (rw [s_18]; congr 2; first | rfl | omega | (push_cast; omega)) | (rw [s_18]; first | rfl | (simp; try omega))), hbW142, rW142_0, rW142_1, rW142_2, rW142_3, (hl2 ▸ fW142_0)⟩)
          · skip
            refine ow_true (eval_of (flag_of s_116 (not_of hb_64))) ?_
            refine wp_exit ?_
            refine ow_then_exit ?_
            refine ow_blk_exit _ ?_
            refine ow_then ?_
            have hx0 : xv = none := by cases xv with | none => rfl | some b => exact absurd hb_64 (by simp [isS])
            refine ow_region [_, _, _] rfl (by intro o ho; simp only [List.mem_cons, List.not_mem_nil, or_false] at ho; rcases ho with rfl | rfl | rfl <;> rfl) ?_
            refine ow_run 110 (.int .i64 ((i : Nat) : Int)) _ rfl (run_moveOp (eval_of s_18)) ?_
            refine ow_run 111 (.int .i64 (((i + 1) : Nat) : Int)) _ rfl (run_binOp (eval_of (put_get _ _ _ (by rw [hsz]; decide))) (eval_cst _ _) (by simp [go_sem]) (addIw _ _ _ _ (by omega) (by omega) (by omega))) ?_
            refine ow_run 18 (.int .i64 (((i + 1) : Nat) : Int)) _ rfl (run_assignOp (eval_of (put_get _ _ _ (by simp only [put_size]; rw [hsz]; decide)))) ?_
            refine fresh (C := fun x W => wpRun _ [] x W _) (fun x X => _ = X ∧ x.tmps.size = 167 ∧ x.defers = [] ∧ x.tmps[3]? = some (.pointer (some ⟨q1, 0, none⟩)) ∧ x.tmps[6]? = some (.pointer (some ⟨q3, 0, none⟩)) ∧ x.tmps[8]? = some (.slice (some ⟨q6, 0, none⟩) 2049 2049) ∧ x.tmps[9]? = some (.slice (some ⟨q9, 0, none⟩) 2048 2048) ∧ x.tmps[16]? = some (.int .i64 (((toldN V) : Nat) : Int)) ∧ x.tmps[17]? = some (.slice al PL.length cl) ∧ x.tmps[18]? = some (.int .i64 (((i + 1) : Nat) : Int))) ⟨rfl, (by simp only [put_size]; exact hsz), (by simp only [put_defers]; exact hdf), (pf1 (by decide) (pf2 (by decide) s_3)), (pf1 (by decide) (pf2 (by decide) s_6)), (pf1 (by decide) (pf2 (by decide) s_8)), (pf1 (by decide) (pf2 (by decide) s_9)), (pf1 (by decide) (pf2 (by decide) s_16)), (pf1 (by decide) (pf2 (by decide) s_17)), (put_get _ _ _ (by simp only [put_size]; rw [hsz]; decide))⟩ ?_
            clear hsz hdf s_3 s_6 s_8 s_9 s_16 s_17 s_18 s_116
            rintro a _ ⟨rfl, hsz, hdf, s_3, s_6, s_8, s_9, s_16, s_17, s_18⟩
            exact ow_then (hK60 _ _ _ (by omega) ⟨(i + 1), al, cl, PL, rfl, by omega, by omega, by rw [hPL, parts_none (by rw [hx, hx0])], hsz, hdf, s_3, s_6, s_8, s_9, s_16, s_17, (by first | exact s_18 | (rw [s_18]; congr 2; first | rfl | omega | (push_cast; omega)) | (rw [s_18]; first | rfl | (simp; try omega))), hbW58, rW58_0, rW58_1, rW58_2, rW58_3, gW58_0⟩)
        · skip
          refine ow_false (eval_of (flag_of s_109 hb_62)) ?_
          refine wp_exit ?_
          refine ow_then_exit ?_
          refine ow_then_exit ?_
          refine ow_blk_exit _ ?_
          refine ow_then ?_
          refine wp_seq ?_
          refine wp_seq ?_
          obtain rfl : i = 2048 := by have h := hb_62; rw [decide_eq_false_iff_not] at h; omega
          obtain ⟨hfit, hfit2, hNx, hPs, hTo⟩ := fit_facts hVe hPL
          refine ow_region [_, _, _] rfl (by intro o ho; simp only [List.mem_cons, List.not_mem_nil, or_false] at ho; rcases ho with rfl | rfl | rfl <;> rfl) ?_
          refine ow_run 153 (.slice al PL.length cl) _ rfl (run_moveOp (eval_of s_17)) ?_
          refine ow_run 154 (.int .i64 ((PL.length : Nat) : Int)) _ rfl (run_lenOp Try.underlying22 (eval_of (put_get _ _ _ (by rw [hsz]; decide)))) ?_
          refine ow_run 155 (.bool (decide (8 < ((PL.length : Nat) : Int)))) _ rfl (run_binOp (eval_of (put_get _ _ _ (by simp only [put_size]; rw [hsz]; decide))) (eval_cst _ _) (by simp [go_sem]) (gtrIw _ _ _)) ?_
          refine fresh (C := fun x W => wpRun _ [] x W _) (fun x X => _ = X ∧ x.tmps.size = 167 ∧ x.defers = [] ∧ x.tmps[3]? = some (.pointer (some ⟨q1, 0, none⟩)) ∧ x.tmps[6]? = some (.pointer (some ⟨q3, 0, none⟩)) ∧ x.tmps[9]? = some (.slice (some ⟨q9, 0, none⟩) 2048 2048) ∧ x.tmps[16]? = some (.int .i64 (((toldN V) : Nat) : Int)) ∧ x.tmps[17]? = some (.slice al PL.length cl) ∧ x.tmps[155]? = some (.bool (decide (8 < ((PL.length : Nat) : Int))))) ⟨rfl, (by simp only [put_size]; exact hsz), (by simp only [put_defers]; exact hdf), (pf1 (by decide) (pf2 (by decide) s_3)), (pf1 (by decide) (pf2 (by decide) s_6)), (pf1 (by decide) (pf2 (by decide) s_9)), (pf1 (by decide) (pf2 (by decide) s_16)), (pf1 (by decide) (pf2 (by decide) s_17)), (put_get _ _ _ (by simp only [put_size]; rw [hsz]; decide))⟩ ?_
          clear hsz hdf s_3 s_6 s_8 s_9 s_109 s_16 s_17 s_18
          rintro a _ ⟨rfl, hsz, hdf, s_3, s_6, s_9, s_16, s_17, s_155⟩
          refine ow_then ?_
          rcases Bool.eq_false_or_eq_true ((decide (8 < ((PL.length : Nat) : Int)))) with hb_147 | hb_147
          · skip
            refine ow_true (eval_of (flag_of s_155 hb_147)) ?_
            refine wp_seq ?_
            refine ow_region [_, _, _] rfl (by intro o ho; simp only [List.mem_cons, List.not_mem_nil, or_false] at ho; rcases ho with rfl | rfl | rfl <;> rfl) ?_
            refine ow_run 156 (.agg #[.int .i64 next, .slice ao L.length cap]) _ rfl (run_loadOp (eval_of s_3) (run_loadN [.int .i64 next, .slice ao L.length cap] rW58_0 (fun j v hj => by simpa using hj) Try.underlying24 rfl (by kernel_rfl))) ?_
            refine ow_skip _ rfl (run_storeOp (eval_of (pf1 (by decide) s_6)) (eval_of (put_get _ _ _ (by rw [hsz]; decide))) (run_storeN (xs := [.int .i64 next, .slice ao L.length cap]) rW58_1 (by simp) (by kernel_rfl) rfl)) ?_
            refine fresh (C := fun x W => wpRun _ _ x W _) (fun x X => _ = x ∧ Below w.heap.size w X ∧ RowAt X q1 [.int .i64 next, .slice ao L.length cap] ∧ RowAt X q3 [.int .i64 next, .slice ao L.length cap] ∧ RowAt X q6 (hvRow V) ∧ RowAt X q9 (byRow V) ∧ DOwn KPart 58 X (q9 + 1) (.slice al PL.length cl) PL) ⟨rfl, (below_sets (by omega) _ _ _ hbW58), (RowAt.sets_other _ _ _ rW58_0 (by omega)), (RowAt.sets [.int .i64 next, .slice ao L.length cap] 0 _ _ rW58_1 (by simp)), (RowAt.sets_other _ _ _ rW58_2 (by omega)), (RowAt.sets_other _ _ _ rW58_3 (by omega)), (down_setl hlo6 (down_setl hlo6 gW58_0))⟩ ?_
            rintro _ W148 ⟨rfl, hbW148, rW148_0, rW148_1, rW148_2, rW148_3, fW148_0⟩
            refine ow_run 7 (.slice none 0 0) _ rfl (run_assignOp (eval_cst _ _)) ?_
            refine fresh (C := fun x W => wpRun _ [] x W _) (fun x X => _ = X ∧ x.tmps.size = 167 ∧ x.defers = [] ∧ x.tmps[6]? = some (.pointer (some ⟨q3, 0, none⟩)) ∧ x.tmps[7]? = some (.slice none 0 0)) ⟨rfl, (by simp only [put_size]; exact hsz), (by simp only [put_defers]; exact hdf), (pf2 (by decide) s_6), (put_get _ _ _ (by simp only [put_size]; rw [hsz]; decide))⟩ ?_
            clear hsz hdf s_3 s_6 s_9 s_16 s_17 s_155
            rintro a _ ⟨rfl, hsz, hdf, s_6, s_7⟩
            refine ow_then ?_
            refine wp_ret ?_
            refine ow_then_ret ?_
            refine ow_retRow2 (v := .agg #[.int .i64 next, .slice ao L.length cap]) rfl hdf s_6 (by have h1 := rW148_1.cell (j := 0) rfl; have h2 := rW148_1.cell (j := 1) rfl; simp [go_sem, h1, h2]) s_7 ?_
            exact .inr ⟨hfit hb_147, rfl, hbW148⟩
          · skip
            refine ow_false (eval_of (flag_of s_155 hb_147)) ?_
            refine wp_skip ?_
            refine ow_then ?_
            refine wp_seq ?_
            refine ah_region (fun W => Below w.heap.size w W ∧ RowAt W q1 [.int .i64 next, .slice ao L.length cap] ∧ RowAt W q6 (hvRow V) ∧ RowAt W q9 (byRow V) ∧ DOwn KPart 58 W (q9 + 1) (.slice al PL.length cl) PL) (by kernel_rfl) 12 rfl ?_
            refine fresh (C := fun x W => AH _ _ _ _ _ _ x W) (fun x X => _ = x ∧ Below w.heap.size w X ∧ RowAt X q1 [.int .i64 next, .slice ao L.length cap] ∧ RowAt X q3 [.int .i64 0, .slice none 0 0] ∧ RowAt X q6 (hvRow V) ∧ RowAt X q9 (byRow V) ∧ DOwn KPart 58 X (q9 + 1) (.slice al PL.length cl) PL) ⟨rfl, (hbW58.trans (((Below.refl _ W58).drew).mono hbW58.size)), (rW58_0.below ((Below.refl _ W58).drew)), (rW58_1.below ((Below.refl _ W58).drew)), (rW58_2.below ((Below.refl _ W58).drew)), (rW58_3.below ((Below.refl _ W58).drew)), (gW58_0.below ((Below.refl _ W58).drew))⟩ ?_
            rintro _ W150 ⟨rfl, hbW150, rW150_0, rW150_1, rW150_2, rW150_3, fW150_0⟩
            refine ah_takeW 0 157 (.pointer (some ⟨q1, 0, none⟩)) rfl (wanted_none rfl) rfl (by kernel_rfl) (by kernel_rfl) (by kernel_rfl) (fun _ _ _ h => h) ⟨hbW150, rW150_0, rW150_2, rW150_3, fW150_0⟩ (fun W hW => by (try obtain ⟨hbW150, rW150_0, rW150_2, rW150_3, fW150_0⟩ := hW); exact (run_fieldAddr (eval_of s_3) (by simp [go_sem, Instr.fieldAt]))) ?_
            refine ah_takeW 1 158 (.int .i64 next) rfl (wanted_none rfl) rfl (by kernel_rfl) (by kernel_rfl) (by kernel_rfl) (fun _ _ _ h => h) ⟨hbW150, rW150_0, rW150_2, rW150_3, fW150_0⟩ (fun W hW => by (try obtain ⟨hbW150, rW150_0, rW150_2, rW150_3, fW150_0⟩ := hW); exact (run_loadOp (eval_of (put_get _ _ _ (by rw [hsz]; decide))) (by simp [go_sem, Instr.loadAt, rW150_0.cell (j := 0) rfl]))) ?_
            refine ah_takeW 2 159 (.int .i64 (((toldN V) : Nat) : Int)) rfl (wanted_none rfl) rfl (by kernel_rfl) (by kernel_rfl) (by kernel_rfl) (fun _ _ _ h => h) ⟨hbW150, rW150_0, rW150_2, rW150_3, fW150_0⟩ (fun W hW => by (try obtain ⟨hbW150, rW150_0, rW150_2, rW150_3, fW150_0⟩ := hW); exact (run_moveOp (eval_of (pf2 (by decide) s_16)))) ?_
            refine ah_takeW 4 161 (.slice al PL.length cl) rfl (wanted_none rfl) rfl (by kernel_rfl) (by kernel_rfl) (by kernel_rfl) (fun _ _ _ h => h) ⟨hbW150, rW150_0, rW150_2, rW150_3, fW150_0⟩ (fun W hW => by (try obtain ⟨hbW150, rW150_0, rW150_2, rW150_3, fW150_0⟩ := hW); exact (run_moveOp (eval_of (pf1 (by decide) (pf2 (by decide) s_17))))) ?_
            refine ah_takeW 6 163 (.slice (some ⟨q9, 0, none⟩) 2048 2048) rfl (wanted_none rfl) rfl (by kernel_rfl) (by kernel_rfl) (by kernel_rfl) (fun _ _ _ h => h) ⟨hbW150, rW150_0, rW150_2, rW150_3, fW150_0⟩ (fun W hW => by (try obtain ⟨hbW150, rW150_0, rW150_2, rW150_3, fW150_0⟩ := hW); exact (run_moveOp (eval_of (pf4 (by decide) s_9)))) ?_
            refine ah_takeW 7 164 (.int .i64 (((toldN V) : Nat) : Int)) rfl (wanted_none rfl) rfl (by kernel_rfl) (by kernel_rfl) (by kernel_rfl) (fun _ _ _ h => h) ⟨hbW150, rW150_0, rW150_2, rW150_3, fW150_0⟩ (fun W hW => by (try obtain ⟨hbW150, rW150_0, rW150_2, rW150_3, fW150_0⟩ := hW); exact (run_moveOp (eval_of (pf1 (by decide) (pf4 (by decide) s_16))))) ?_
            refine ah_takeW 8 165 (.slice (some ⟨q9, 0, none⟩) (toldN V) 2048) rfl (wanted_none rfl) rfl (by kernel_rfl) (by kernel_rfl) (by kernel_rfl) (fun _ _ _ h => h) ⟨hbW150, rW150_0, rW150_2, rW150_3, fW150_0⟩ (fun W hW => by (try obtain ⟨hbW150, rW150_0, rW150_2, rW150_3, fW150_0⟩ := hW); exact (run_sliceOp1 (eval_of (pf1 (by decide) (put_get _ _ _ (by simp only [put_size]; rw [hsz]; decide)))) (eval_of (put_get _ _ _ (by simp only [put_size]; rw [hsz]; decide))) (sl_to2048 _ (toldN V) (toldN_le2 hVl) _))) ?_
            refine ah_one 3 (by kernel_rfl) ?_
            refine ao_call rfl (wanted_none rfl) 160 (fun v X => v = (.int .i64 (addv next (((toldN V) : Nat) : Int))) ∧ W150 = X) rfl _ _ (run_callOp Try.func18 rfl rfl (arr2 (eval_of (pf1 (by decide) (pf4 (by decide) (put_get _ _ _ (by simp only [put_size]; rw [hsz]; decide))))) (eval_of (pf4 (by decide) (put_get _ _ _ (by simp only [put_size]; rw [hsz]; decide)))))) (((radd12_any next (((toldN V) : Nat) : Int) W150)).mono fun e X h => ⟨_, h.1, rfl, h.2⟩) ?_
            rintro _ _ ⟨rfl, rfl⟩
            refine ⟨⟨hbW150, rW150_0, rW150_2, rW150_3, fW150_0⟩, ?_⟩
            refine ah_takeW 5 162 (.agg #[.int .i64 (addv next (((toldN V) : Nat) : Int)), .slice al PL.length cl]) rfl (wanted_none rfl) rfl (by kernel_rfl) (by kernel_rfl) (by kernel_rfl) (fun _ _ _ h => h) ⟨hbW150, rW150_0, rW150_2, rW150_3, fW150_0⟩ (fun W hW => by (try obtain ⟨hbW150, rW150_0, rW150_2, rW150_3, fW150_0⟩ := hW); exact (run_buildOp (bp2 (eval_of (put_get _ _ _ (by simp only [put_size]; rw [hsz]; decide))) (eval_of (pf4 (by decide) (put_get _ _ _ (by simp only [put_size]; rw [hsz]; decide))))) (by first | rfl | kernel_rfl))) ?_
            refine ah_one 9 (by kernel_rfl) ?_
            have hslT := by_slice rW150_3 hVl (toldN_le2 hVl)
            have hWs : w.heap.size ≤ W150.heap.size := hbW150.size
            have hPlt : ∀ k, DBlk (.slice al PL.length cl) PL k → k < W150.heap.size := fun k hk => (dblk_lt fW150_0 hk).2
            have hwc3 : q1 < W150.heap.size := rW150_0.2.2
            have hwc6 : q3 < W150.heap.size := rW150_1.2.2
            refine ao_call rfl (wanted_none rfl) 166 (fun v X => Below W150.heap.size W150 X ∧ X.ownsRow W150.heap.size 5 1 v (toldN V) (((V.take (toldN V)).map byt).map B8)) rfl _ _ (run_callOp Try.func19 rfl rfl (arr1 (eval_of (pf2 (by decide) (put_get _ _ _ (by simp only [put_size]; rw [hsz]; decide)))))) ((copyBytes_any _ _ W150 (by have := toldN_le2 hVl; simp; omega) hslT).mono fun e X ⟨v, he, h1, h2⟩ => ⟨_, he, h1, by rwa [List.length_map, List.length_take, Nat.min_eq_left (toldN_le V)] at h2⟩) ?_
            rintro vt V152 ⟨hb151, tol⟩
            have hbN := (hbW150.trans (hb151.mono hbW150.size))
            have hbN153 := hbN
            have rN154 := (rW150_0.below hb151)
            have rN155 := (rW150_1.below hb151)
            have rN156 := (rW150_2.below hb151)
            have rN157 := (rW150_3.below hb151)
            have fN158 := (fW150_0.below hb151)
            refine ⟨⟨hbN153, rN154, rN156, rN157, fN158⟩, ?_⟩
            refine ah_one 10 (by kernel_rfl) ?_
            refine ao_skip rfl (wanted_none rfl) rfl _ (run_storeOp (eval_of (pf2 (by decide) (pf8 (by decide) s_6))) (eval_of (pf1 (by decide) (put_get _ _ _ (by simp only [put_size]; rw [hsz]; decide)))) (run_storeN (xs := [.int .i64 (addv next (((toldN V) : Nat) : Int)), .slice al PL.length cl]) rN155 (by simp) (by kernel_rfl) rfl)) ⟨(below_sets (by omega) _ _ _ hbN153), (RowAt.sets_other _ _ _ rN154 (by omega)), (RowAt.sets_other _ _ _ rN156 (by omega)), (RowAt.sets_other _ _ _ rN157 (by omega)), (down_setl hlo6 (down_setl hlo6 fN158))⟩ ?_
            refine fresh (C := fun x W => AH _ _ _ _ _ _ x W) (fun x X => _ = x ∧ Below w.heap.size w X ∧ RowAt X q1 [.int .i64 next, .slice ao L.length cap] ∧ RowAt X q3 [.int .i64 (addv next (((toldN V) : Nat) : Int)), .slice al PL.length cl] ∧ RowAt X q6 (hvRow V) ∧ RowAt X q9 (byRow V) ∧ DOwn KPart 58 X (q9 + 1) (.slice al PL.length cl) PL ∧ X.ownsRow W150.heap.size 5 1 vt (toldN V) (((V.take (toldN V)).map byt).map B8)) ⟨rfl, (below_sets (by omega) _ _ _ hbN153), (RowAt.sets_other _ _ _ rN154 (by omega)), (RowAt.sets [.int .i64 (addv next (((toldN V) : Nat) : Int)), .slice al PL.length cl] 0 _ _ rN155 (by simp)), (RowAt.sets_other _ _ _ rN156 (by omega)), (RowAt.sets_other _ _ _ rN157 (by omega)), (down_setl hlo6 (down_setl hlo6 fN158)), (own_set2 hwc6 (own_set2 hwc6 tol))⟩ ?_
            rintro _ W159 ⟨rfl, hbW159, rW159_0, rW159_1, rW159_2, rW159_3, fW159_0, fW159_1⟩
            refine ah_takeW 11 7 (vt) rfl (wanted_none rfl) rfl (by kernel_rfl) (by kernel_rfl) (by kernel_rfl) (fun _ _ _ h => h) ⟨hbW159, rW159_0, rW159_2, rW159_3, fW159_0⟩ (fun W hW => by (try obtain ⟨hbW159, rW159_0, rW159_2, rW159_3, fW159_0⟩ := hW); exact (run_assignOp (eval_of (put_get _ _ _ (by simp only [put_size]; rw [hsz]; decide))))) ?_
            refine fresh (C := fun x W => AH _ _ _ _ _ _ x W) (fun x X => _ = X ∧ x.tmps.size = 167 ∧ x.defers = [] ∧ x.tmps[6]? = some (.pointer (some ⟨q3, 0, none⟩)) ∧ x.tmps[7]? = some (vt)) ⟨rfl, (by simp only [put_size]; exact hsz), (by simp only [put_defers]; exact hdf), (pf1 (by decide) (pf2 (by decide) (pf8 (by decide) s_6))), (put_get _ _ _ (by simp only [put_size]; rw [hsz]; decide))⟩ ?_
            clear hsz hdf s_3 s_6 s_9 s_16 s_17 s_155
            rintro a _ ⟨rfl, hsz, hdf, s_6, s_7⟩
            refine ah_done (by kernel_rfl) ?_
            refine ow_then ?_
            refine wp_ret ?_
            refine ow_retRow2 (v := .agg #[.int .i64 (addv next (((toldN V) : Nat) : Int)), .slice al PL.length cl]) rfl hdf s_6 (by have h1 := rW159_1.cell (j := 0) rfl; have h2 := rW159_1.cell (j := 1) rfl; simp [go_sem, h1, h2]) s_7 ?_
            exact .inl ⟨hfit2 hb_147, _, vt, PL, by rw [hNx (hfit2 hb_147)], by rw [hPL]; exact (hPs (hfit2 hb_147)).symm, DOwn.mono fW159_0 (by omega), by rw [hTo (hfit2 hb_147), List.length_map, List.length_take, Nat.min_eq_left (toldN_le V)]; exact own_mono fW159_1 hWs, fun k hk hd => by have h1 := (blk_lt fW159_1 hk).1; have h2 := hPlt k hd; omega, hbW159⟩
end Go.Proofs.Ytjgbiffgmafhmaa

