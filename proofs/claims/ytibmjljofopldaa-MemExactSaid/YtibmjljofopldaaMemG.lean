/-
  Memory: Write.
-/
import Derived.Test.YtibmjljofopldaaMemF
namespace Go.Proofs.Ytibmjljofopldaa
open Go.RowKit
theorem take_splice {α : Type} (L : List α) (off n : Nat) (cs : List α) (h1 : off + cs.length ≤ n) (h2 : n ≤ L.length) : (splice L off cs).take n = splice (L.take n) off cs := by
  unfold splice
  rw [List.take_append, List.take_append, List.take_take, List.take_take, List.drop_take, List.length_take]
  rw [show min n off = off from by omega, show min off n = off from by omega, show min off L.length = off from by omega, List.take_of_length_le (show cs.length ≤ n - off from by omega), show n - off - cs.length = n - (off + cs.length) from by omega]
theorem splice_nil {α : Type} (L : List α) (off : Nat) : splice L off [] = L := by simp [splice]
theorem map_splice (l x : List UInt8) (off : Nat) : (splice l off x).map B8 = splice (l.map B8) off (x.map B8) := by simp [splice, List.map_take, List.map_drop]
theorem wpList_copyAll {P : Program} {w : World} {ops : Array Oper} {rest : List Oper} {o : Oper} {a : Act} {Q : Exit → Act → World → Prop} (hgd : o.guard = none) (d s : Operand) (dT sT : TypeId)
    (ho : o.op = .call { callee := .builtin .copy, args := #[d, s], argTypes := #[dT, sT] }) (elem : TypeId) (hu : P.underlying dT = some (.slice elem)) (hsz : (P.info? elem).map (·.size) = some 1)
    (base g off n cap : Nat) (l x : List UInt8) (hown : w.ownsRow base elem 1 (.slice (some ⟨g, 0, none⟩) n cap) n (l.map B8)) (dp : Option Addr) (dLen dCap : Nat) (hd : a.eval d = .slice dp dLen dCap) (hdl : dLen = n - off)
    (hdp : 0 < x.length → dp = some ⟨g, off, none⟩) (vs : Value) (hs : a.eval s = vs) (hS : Sl w vs x) (hoff : off + x.length ≤ n)
    (h : ∀ w', w'.ownsRow base elem 1 (.slice (some ⟨g, 0, none⟩) n cap) n ((splice l off x).map B8) → w.grownBy w' (some g) → w'.heap.size = w.heap.size → wpList P ops Q rest (a.put o.dst (goInt x.length)) w') : wpList P ops Q (o :: rest) a w := by
  obtain ⟨sp, sCap, rfl, -, -, -, hB⟩ := hS
  by_cases h0 : x.length = 0
  · obtain rfl : x = [] := List.eq_nil_of_length_eq_zero h0
    refine wpList_copy_nothing hgd d s dT sT ho elem hu hsz dp sp dLen dCap _ sCap hd hs (by show min _ _ = 0; simp) ?_
    exact h w (by rw [splice_nil]; exact hown) (grown_refl _ _) rfl
  · obtain ⟨hl, h2⟩ := hown
    rcases h2 with ⟨h2, -⟩ | ⟨g', cap', cur, hv, hbg, hh, hle, hcap, hcs, htake⟩
    · cases h2
    · simp only [Value.slice.injEq, Option.some.injEq, Addr.mk.injEq, and_true, true_and] at hv
      obtain ⟨rfl, rfl⟩ := hv
      obtain ⟨b, so, rfl, -, hBB⟩ := hB (by intro h; simp [h] at h0)
      obtain rfl := hdp (by omega)
      simp only [Nat.mul_one] at hl hcs htake
      have hcl : cur.toList.length = cap := by simpa using hcs
      refine wpList_copy_own hgd d s dT sT ho elem hu hsz g off dLen dCap _ _ sCap hd hs cur elem hh (x.map B8) ?_ ?_ (by simp; omega) (by intro v hv; simp only [List.mem_map] at hv; obtain ⟨y, -, rfl⟩ := hv; rfl) ?_
      · rw [List.length_map]; show _ = min _ _; omega
      · intro j v hj
        simp only [List.getElem?_map, Option.map_eq_some_iff] at hj
        obtain ⟨y, hy, rfl⟩ := hj
        have := hBB j y hy
        unfold Addr.add
        split
        · rename_i h0; subst h0; simpa using this
        · simpa using this
      · have hset : (w.setRow g (cur.toList.take off ++ (x.map B8 ++ cur.toList.drop (off + (x.map B8).length))).toArray).heap[g]? = some (.cells (cur.toList.take off ++ (x.map B8 ++ cur.toList.drop (off + (x.map B8).length))).toArray elem (0, 0)) := setRow_heap w g _ _ elem _ hh
        rw [List.length_map] at hset ⊢
        refine h _ ⟨?_, .inr ⟨g, cap, _, rfl, hbg, hset, hle, hcap, ?_, ?_⟩⟩ ⟨rfl, rfl, rfl, by simp [World.setRow], fun k hk hne => setRow_other w g k _ (by intro h; exact hne (by rw [h]))⟩ (by simp [World.setRow])
        · rw [List.length_map, length_splice _ _ _ (by rw [List.length_map] at hl; omega)]; simpa using hl
        · have := length_splice cur.toList off (x.map B8) (by simp; omega)
          simp only [splice, List.length_map] at this
          simp only [List.size_toArray, this, hcl]; omega
        · have e : cur.toList.take off ++ (x.map B8 ++ cur.toList.drop (off + x.length)) = splice cur.toList off (x.map B8) := by simp [splice]
          rw [e, Nat.mul_one, take_splice _ _ _ _ (by rw [List.length_map]; omega) (by omega), htake, map_splice]
theorem memWrite_out (g : Nat) (at' : Int) (x : List UInt8) (vx : Value) (ao : Option Addr) (N cap : Nat) (w : World) (hc : w.cell? ⟨g, 0, none⟩ = some (.slice ao N cap)) (hN : N ≤ 9223372036854775807) (hx : Sl w vx x) (hxl : x.length ≤ 1000000) (hh : ¬ (0 ≤ at' ∧ at' ≤ (N : Int) - x.length)) :
    Calls Try.prog 26 #[.pointer (some ⟨g, 0, none⟩), .int .i64 at', vx] w fun e w' => e = .returned (.int .i64 2) ∧ w = w' := by
  have B := Lib.hid (memHas_any g at' x.length ao N cap w false hc hN (by omega) (by omega) (by simpa using hh))
  obtain ⟨xa, xc, rfl, -⟩ := hx
  clear hc hh
  go_enter Try.func26, Try.ntmps26
  go_wp2_with fail
  refine B.out.mono ?_
  rintro e w' ⟨rfl, rfl⟩
  go_wp2
  exact bodyPost_ret (v := .int .i64 2) (by simp [results, Try.results26, go_sem]) rfl ⟨rfl, rfl⟩
theorem szU8m : (Try.prog.info? 5).map (·.size) = some 1 := by kernel_rfl
set_option maxRecDepth 100000 in
theorem memWrite_in (base g b i N cap : Nat) (x l : List UInt8) (vx : Value) (w : World) (hc : w.cell? ⟨g, 0, none⟩ = some (.slice (some ⟨b, 0, none⟩) N cap)) (hO : w.ownsRow base 5 1 (.slice (some ⟨b, 0, none⟩) N cap) N (l.map B8)) (hN : N ≤ 1000000) (hx : Sl w vx x) (hi : i + x.length ≤ N) :
    Calls Try.prog 26 #[.pointer (some ⟨g, 0, none⟩), .int .i64 i, vx] w fun e w' => e = .returned (.int .i64 0) ∧ w.grownBy w' (some b) ∧ w'.heap.size = w.heap.size ∧ w'.ownsRow base 5 1 (.slice (some ⟨b, 0, none⟩) N cap) N ((splice l i x).map B8) := by
  have B := Lib.hid (memHas_any g i x.length (some ⟨b, 0, none⟩) N cap w true hc (by omega) (by omega) (by omega) (by simp; omega))
  have hcap : N ≤ cap ∧ cap ≤ maxLen := by
    obtain ⟨_, h2⟩ := hO
    rcases h2 with ⟨h2, -⟩ | ⟨g', cap', cur, hv, hbg, hh, hle, hcap, hcs, htake⟩
    · cases h2
    · cases hv; exact ⟨hle, hcap⟩
  have hcm : cap ≤ 9223372036854775807 := by simpa [maxLen] using hcap.2
  have HX := Lib.hid hx
  obtain ⟨xa, xc, rfl, -⟩ := hx
  have HO := Lib.hid hO; clear hO
  obtain ⟨hcap1, -⟩ := hcap
  have hiN : (i : Int) ≤ (N : Int) := by omega
  by_cases hic : i = cap
  · subst hic
    obtain rfl : x = [] := List.eq_nil_of_length_eq_zero (by omega)
    replace B := Lib.hid (show Calls Try.prog 54 #[.pointer (some ⟨g, 0, none⟩), .int .i64 i, .int .i64 0] w (fun e w' => e = .returned (.bool true) ∧ w = w') from B.out)
    replace HX := Lib.hid (show Sl w (.slice xa 0 xc) [] from HX.out)
    rw [List.length_nil]
    have hcp := run_copy_none (P := Try.prog) w 34 34 3 5 (some ⟨b, 0, none⟩) xa 0 0 0 xc Try.underlying34 szU8m rfl
    go_enter Try.func26, Try.ntmps26
    go_wp2_with fail
    refine B.out.mono ?_
    rintro e w' ⟨rfl, rfl⟩
    go_wp2
    exact bodyPost_ret (v := .int .i64 0) (by simp [results, Try.results26, go_sem]) rfl ⟨rfl, grown_refl _ _, rfl, by rw [splice_nil]; exact HO.out⟩
  · have hi1 : (i = cap) = False := by simp [hic]
    have hi2 : (cap = i) = False := by simp; omega
    go_enter Try.func26, Try.ntmps26
    go_wp2_with fail
    refine B.out.mono ?_
    rintro e w' ⟨rfl, rfl⟩
    go_wp2_with (refine wpList_copyAll rfl _ _ 34 34 rfl 5 Try.underlying34 szU8m base b i N cap l x HO.out _ _ _ rfl rfl (fun _ => rfl) _ rfl HX.out hi ?_; intro w2 ho2 hg2 hs2)
    exact bodyPost_ret (v := .int .i64 0) (by simp [results, Try.results26, go_sem]) rfl ⟨rfl, hg2, hs2, ho2⟩
end Go.Proofs.Ytibmjljofopldaa
