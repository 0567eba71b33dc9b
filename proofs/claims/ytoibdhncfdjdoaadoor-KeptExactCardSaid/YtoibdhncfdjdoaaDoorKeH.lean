/-
  The script of layer 22, read; whether it is heavy.
-/
import Derived.Test.YtoibdhncfdjdoaaDoorKeF
import Derived.Test.YtoibdhncfdjdoaaDoorReadM
namespace Go.Proofs.YtoibdhncfdjdoaaDoor
open Go.RowKit Go.Lib
theorem SlOf.split {α : Type} {w : World} {n : Nat} {v : Value} {L : List α} {p : World → Nat → Nat → α → Prop} {bd : α → Prop} (h : SlOf w n (fun w b off q => p w b off q ∧ bd q) v L) : SlOf w n p v L ∧ ∀ q ∈ L, bd q := by
  obtain ⟨ao, cap, rfl, h1, h2, h3, h4⟩ := h
  refine ⟨⟨ao, cap, rfl, h1, h2, h3, fun hne => ?_⟩, fun q hq => ?_⟩
  · obtain ⟨b, off, rfl, hb, hq⟩ := h4 hne
    exact ⟨b, off, rfl, hb, fun i q hi => (hq i q hi).1⟩
  · obtain ⟨b, off, rfl, hb, hh⟩ := h4 (by rintro rfl; cases hq)
    obtain ⟨i, hi⟩ := List.getElem?_of_mem hq
    exact (hh i q hi).2
theorem RdZ.i64 {P : Program} {w : World} {t : TypeId} {cs : List Value} (ht : P.underlying t = some (.int .i64)) (h : RdZ P w t cs) : ∃ n, cs = [.int .i64 n] := by
  obtain ⟨n, h1, -⟩ := h.rd.i64 ht; exact ⟨n, h1⟩
theorem RdZ.bool {P : Program} {w : World} {t : TypeId} {cs : List Value} (ht : P.underlying t = some .bool) (h : RdZ P w t cs) : ∃ b, cs = [.bool b] := h.rd.bool ht
theorem bytes_le {n b : Nat} (h : n * b ≤ reachBytes) (hb : 0 < b) : n ≤ 140737488351232 := by
  have h' : n * b ≤ 140737488351232 := h
  have := Nat.le_mul_of_pos_right n hb
  show n ≤ 140737488351232
  omega
theorem cStr : Tryd.prog.cellsOf 9 = 1 := by kernel_rfl
theorem cInt : Tryd.prog.cellsOf 3 = 1 := by kernel_rfl
theorem cBool : Tryd.prog.cellsOf 4 = 1 := by kernel_rfl
theorem cEl : Tryd.prog.cellsOf 60 = 4 := by kernel_rfl
theorem cL1 : Tryd.prog.cellsOf 53 = 1 := by kernel_rfl
theorem cL2 : Tryd.prog.cellsOf 54 = 1 := by kernel_rfl
/-- One act. -/
structure Act22 where
  d : Int
  t : ByteArray
  p : ByteArray
  q : Int
  r : Bool
  f : ByteArray
def Act22.At (w : World) (b off : Nat) (a : Act22) : Prop := w.cell? ⟨b, off, none⟩ = some (.int .i64 a.d) ∧ w.cell? ⟨b, off + 1, none⟩ = some (.string a.t) ∧ w.cell? ⟨b, off + 2, none⟩ = some (.string a.p) ∧ w.cell? ⟨b, off + 3, none⟩ = some (.int .i64 a.q) ∧ w.cell? ⟨b, off + 4, none⟩ = some (.bool a.r) ∧ w.cell? ⟨b, off + 5, none⟩ = some (.string a.f)
set_option maxRecDepth 100000 in
theorem RdZ.els {w : World} {cs : List Value} (h : RdZ Tryd.prog w 53 cs) : ∃ (v : Value) (L : List EMessage), cs = [v] ∧ SlOf w 4 EMessage.At v L ∧ L.length ≤ 140737488351232 ∧ ∀ x ∈ L, x.t.size ≤ 140737488351232 ∧ x.p.size ≤ 140737488351232 := by
  obtain ⟨v, L, rfl, hS, hb⟩ := h.slOf (p := fun w b off (q : EMessage) => EMessage.At w b off q ∧ q.t.size ≤ 140737488351232 ∧ q.p.size ≤ 140737488351232) (size := 4) Tryd.underlying53 (by kernel_rfl) (by decide) (by
    intro b off cs' _ hc hr
    obtain ⟨hlen, hf⟩ := hr.struct Tryd.underlying60
    match cs', hc.1 with
    | [c0, c1, c2, c3], _ =>
      obtain ⟨s0, h0, z0⟩ := (hf 0 _ rfl).string Tryd.underlying9
      obtain ⟨s1, h1, z1⟩ := (hf 1 _ rfl).string Tryd.underlying9
      obtain ⟨s2, h2⟩ := (hf 2 _ rfl).i64 Tryd.underlying3
      obtain ⟨s3, h3⟩ := (hf 3 _ rfl).bool Tryd.underlying4
      have e0 : c0 = .string s0 := by simpa [cStr] using h0
      have e1 : c1 = .string s1 := by simpa [cStr] using h1
      have e2 : c2 = .int .i64 s2 := by simpa [cInt] using h2
      have e3 : c3 = .bool s3 := by simpa [cBool] using h3
      subst e0 e1 e2 e3
      exact ⟨⟨s0, s1, s2, s3⟩, ⟨hc.2 0 (by decide), hc.2 1 (by decide), hc.2 2 (by decide), hc.2 3 (by decide)⟩, z0, z1⟩)
  exact ⟨v, L, rfl, hS.split.1, bytes_le hb (by rw [show Tryd.prog.bytesOf 60 = 48 by kernel_rfl]; decide), hS.split.2⟩
set_option maxRecDepth 100000 in
theorem RdZ.acts {w : World} {cs : List Value} (h : RdZ Tryd.prog w 54 cs) : ∃ (v : Value) (L : List Act22), cs = [v] ∧ SlOf w 6 Act22.At v L ∧ L.length ≤ 140737488351232 ∧ ∀ a ∈ L, a.t.size ≤ 140737488351232 ∧ a.p.size ≤ 140737488351232 ∧ a.f.size ≤ 140737488351232 := by
  obtain ⟨v, L, rfl, hS, hb⟩ := h.slOf (p := fun w b off (a : Act22) => Act22.At w b off a ∧ a.t.size ≤ 140737488351232 ∧ a.p.size ≤ 140737488351232 ∧ a.f.size ≤ 140737488351232) (size := 6) Tryd.underlying54 (by kernel_rfl) (by decide) (by
    intro b off cs' _ hc hr
    obtain ⟨hlen, hf⟩ := hr.struct Tryd.underlying62
    match cs', hc.1 with
    | [c0, c1, c2, c3, c4, c5], _ =>
      obtain ⟨s0, h0⟩ := (hf 0 _ rfl).i64 Tryd.underlying3
      obtain ⟨hlen1, hg⟩ := (hf 1 _ rfl).struct Tryd.underlying60
      obtain ⟨s5, h5, z5⟩ := (hf 2 _ rfl).string Tryd.underlying9
      obtain ⟨s1, h1, z1⟩ := (hg 0 _ rfl).string Tryd.underlying9
      obtain ⟨s2, h2, z2⟩ := (hg 1 _ rfl).string Tryd.underlying9
      obtain ⟨s3, h3⟩ := (hg 2 _ rfl).i64 Tryd.underlying3
      obtain ⟨s4, h4⟩ := (hg 3 _ rfl).bool Tryd.underlying4
      have e0 : c0 = .int .i64 s0 := by simpa [cInt] using h0
      have e1 : c1 = .string s1 := by simpa [cStr, cInt, cBool, cEl] using h1
      have e2 : c2 = .string s2 := by simpa [cStr, cInt, cBool, cEl] using h2
      have e3 : c3 = .int .i64 s3 := by simpa [cStr, cInt, cBool, cEl] using h3
      have e4 : c4 = .bool s4 := by simpa [cStr, cInt, cBool, cEl] using h4
      have e5 : c5 = .string s5 := by simpa [cStr, cEl] using h5
      subst e0 e1 e2 e3 e4 e5
      exact ⟨⟨s0, s1, s2, s3, s4, s5⟩, ⟨hc.2 0 (by decide), hc.2 1 (by decide), hc.2 2 (by decide), hc.2 3 (by decide), hc.2 4 (by decide), hc.2 5 (by decide)⟩, z1, z2, z5⟩)
  exact ⟨v, L, rfl, hS.split.1, bytes_le hb (by rw [show Tryd.prog.bytesOf 62 = 72 by kernel_rfl]; decide), hS.split.2⟩
set_option maxRecDepth 100000 in
theorem script_of (W : World) (cs : List Value) (h : RdZ Tryd.prog W 56 cs) : ∃ (vS vL : Value) (S : List EMessage) (A : List Act22), cs = [vS, vL] ∧ SlOf W 4 EMessage.At vS S ∧ SlOf W 6 Act22.At vL A ∧ S.length ≤ 140737488351232 ∧ A.length ≤ 140737488351232 ∧ (∀ x ∈ S, x.t.size ≤ 140737488351232 ∧ x.p.size ≤ 140737488351232) ∧ ∀ a ∈ A, a.t.size ≤ 140737488351232 ∧ a.p.size ≤ 140737488351232 ∧ a.f.size ≤ 140737488351232 := by
  obtain ⟨hlen, hf⟩ := h.struct Tryd.underlying56
  match cs, hlen with
  | [c0, c1], _ =>
    obtain ⟨v0, S, h0, hS, hl0, hb0⟩ := (hf 0 _ rfl).els
    obtain ⟨v1, A, h1, hA, hl1, hb1⟩ := (hf 1 _ rfl).acts
    have e0 : c0 = v0 := by simpa [cL1] using h0
    have e1 : c1 = v1 := by simpa [cL1, cL2] using h1
    subst e0 e1
    exact ⟨c0, c1, S, A, rfl, hS, hA, hl0, hl1, hb0, hb1⟩
/-- The script's cells, all the while. -/
structure Sc (w W : World) (bp : Nat) (sN sL : Value) : Prop where
  low : Below w.heap.size w W
  p0 : W.cell? ⟨bp, 0, none⟩ = some sN
  p1 : W.cell? ⟨bp, 1, none⟩ = some sL
  lt : bp < W.heap.size
theorem Sc.below {w W W' : World} {bp : Nat} {sN sL : Value} (h : Sc w W bp sN sL) (hb : Below W.heap.size W W') : Sc w W' bp sN sL :=
  ⟨h.low.trans (hb.mono h.low.size), (hb.cell (p := ⟨bp, 0, none⟩) h.lt).trans h.p0, (hb.cell (p := ⟨bp, 1, none⟩) h.lt).trans h.p1, Nat.lt_of_lt_of_le h.lt hb.size⟩
/-- What is known of a script that is not heavy. -/
structure Light (S : List EMessage) (A : List Act22) : Prop where
  s : S.length ≤ 20000
  a : A.length ≤ 200
  sb : ∀ x ∈ S, x.t.size ≤ 20000 ∧ x.p.size ≤ 20000
  ab : ∀ a ∈ A, a.t.size ≤ 20000 ∧ a.p.size ≤ 20000 ∧ a.f.size ≤ 20000
/-- What heavy tells. -/
def HeavyPost (S : List EMessage) (A : List Act22) (w : World) (e : Ending) (w' : World) : Prop := ∃ b, e = .returned (.bool b) ∧ (b = false → Light S A) ∧ Below w.heap.size w w'
set_option maxRecDepth 100000 in
set_option maxHeartbeats 8000000 in
theorem heavy_any (sS sL : Value) (S : List EMessage) (A : List Act22) (w : World) (hS : SlOf w 4 EMessage.At sS S) (hA : SlOf w 6 Act22.At sL A) (hSl : S.length ≤ 140737488351232) (hAl : A.length ≤ 140737488351232) (hFS : ∀ x ∈ S, x.t.size ≤ 140737488351232 ∧ x.p.size ≤ 140737488351232) (hFA : ∀ a ∈ A, a.t.size ≤ 140737488351232 ∧ a.p.size ≤ 140737488351232 ∧ a.f.size ≤ 140737488351232) :
    Calls Tryd.prog 26 #[.agg #[sS, sL]] w fun e w' => HeavyPost S A w e w' := by
  obtain ⟨aS, cS, rfl, -, -, -, hBS⟩ := hS
  obtain ⟨aA, cA, rfl, -, -, -, hBA⟩ := hA
  have HS := Lib.hid hBS
  have HA := Lib.hid hBA
  have HFS := Lib.hid hFS
  have HFA := Lib.hid hFA
  clear hBS hBA hFS hFA
  obtain ⟨W0, hW0⟩ : ∃ W0, W0 = w.alloc (.cells #[.slice aS S.length cS, .slice aA A.length cA] 56) := ⟨_, rfl⟩
  have hE0 : Sc w W0 w.heap.size (.slice aS S.length cS) (.slice aA A.length cA) := by
    rw [hW0]
    exact ⟨(Below.refl _ w).alloc (Nat.le_refl _) _, by simp [go_sem], by simp [go_sem], by simp⟩
  go_enter Tryd.func26, Tryd.ntmps26
  go_wp2
  rw [← hW0]
  clear hW0
  go_loopw [3, 4] (fun vn vi wr => ∃ (N k : Nat), k ≤ S.length ∧ vi = .int .i64 k ∧ vn = .int .i64 N ∧ N ≤ 562949953421312 ∧ Sc w wr w.heap.size (.slice aS S.length cS) (.slice aA A.length cA) ∧ S.length ≤ N ∧ (∀ j x, S[j]? = some x → j < k → x.t.size ≤ N ∧ x.p.size ≤ N)) (fun _ i _ => S.length - (RowKit.intOf i).toNat)
  case atStart => exact ⟨S.length, 0, by omega, rfl, rfl, by omega, hE0, Nat.le_refl _, fun j x _ hj => by omega⟩
  case round =>
    obtain ⟨N, k, hk, rfl, rfl, hN, hsc, hg0, hg1⟩ := hrel
    clear hE0
    have HSc := Lib.hid hsc
    have HG := Lib.hid hg1
    clear hsc hg1
    by_cases hl : k < S.length
    · have hlz : (k : Int) < (S.length : Int) := by omega
      by_cases hn : N < 1048576
      · have hnz : (N : Int) < 1048576 := by omega
        obtain ⟨b, off, rfl, hb, hBB⟩ := HS.out (by intro h; simp [h] at hl)
        obtain ⟨x, hq⟩ : ∃ x, S[k]? = some x := ⟨_, List.getElem?_eq_getElem hl⟩
        obtain ⟨c0, c1, c2, c3⟩ := hBB _ x hq
        have d0 := (HSc.out.low.cell (p := ⟨b, off + k * 4, none⟩) hb).trans c0
        have d1 := (HSc.out.low.cell (p := ⟨b, off + k * 4 + 1, none⟩) hb).trans c1
        have hfar := HFS.out x (List.mem_of_getElem? hq)
        have HQ := Lib.hid hq
        clear c0 c1 c2 c3 hBB hq
        obtain ⟨-, p0, p1, plt⟩ := id HSc.out
        go_wp2
        go_quiet (fail)
        have HSq := Lib.hid (HSc.out.below (bdrew (Below.refl _ _) nq))
        clear p0 p1 plt d0 d1
        go_wp2
        go_roundw
        case rel => exact ⟨N + x.t.size + x.p.size, k + 1, by omega, by go_num, by first | rfl | (congr 1; omega), by omega, HSq.out, by omega, fun j x' hj hjk => by
            rcases Nat.lt_or_ge j k with h | h
            · have h9 := HG.out j x' hj h; first | omega | exact ⟨by omega, by omega⟩
            · obtain rfl : j = k := by omega
              rw [HQ.out] at hj; injection hj with hj; subst hj; first | omega | exact ⟨by omega, by omega⟩⟩
        case measure => simp [RowKit.intOf]; omega
      · have hnz : ¬ (N : Int) < 1048576 := by omega
        have HG1 := Lib.hid (show N < 1048576 → S.length ≤ N ∧ ∀ x ∈ S, x.t.size ≤ N ∧ x.p.size ≤ N from fun h => absurd h hn)
        obtain ⟨-, p0, p1, plt⟩ := id HSc.out
        clear HG
        go_wp2
        go_loopw [3, 5] (fun vn vi wr => ∃ (N2 k : Nat), k ≤ A.length ∧ vi = .int .i64 k ∧ vn = .int .i64 N2 ∧ N2 ≤ 562949953421312 ∧ Sc w wr w.heap.size (.slice aS S.length cS) (.slice aA A.length cA) ∧ (N2 < 1048576 → S.length ≤ N2 ∧ ∀ x ∈ S, x.t.size ≤ N2 ∧ x.p.size ≤ N2) ∧ (∀ j a, A[j]? = some a → j < k → a.t.size ≤ N2 ∧ a.p.size ≤ N2 ∧ a.f.size ≤ N2)) (fun _ i _ => A.length - (RowKit.intOf i).toNat)
        case atStart => exact ⟨N, 0, by omega, rfl, rfl, by omega, HSc.out, HG1.out, fun j a _ hj => by omega⟩
        case round =>
          obtain ⟨N2, k2, hk2, rfl, rfl, hN2, hsc, hg1, hg2⟩ := hrel
          clear HSc HG1
          have HSc := Lib.hid hsc
          have HG1 := Lib.hid hg1
          have HG2 := Lib.hid hg2
          clear hsc hg1 hg2
          by_cases hl2 : k2 < A.length
          · have hl2z : (k2 : Int) < (A.length : Int) := by omega
            by_cases hn2 : N2 < 1048576
            · have hn2z : (N2 : Int) < 1048576 := by omega
              obtain ⟨b2, off2, rfl, hb2, hBB2⟩ := HA.out (by intro h; simp [h] at hl2)
              obtain ⟨a, hq2⟩ : ∃ a, A[k2]? = some a := ⟨_, List.getElem?_eq_getElem hl2⟩
              obtain ⟨y0, y1, y2, y3, y4, y5⟩ := hBB2 _ a hq2
              have d1 := (HSc.out.low.cell (p := ⟨b2, off2 + k2 * 6 + 1, none⟩) hb2).trans y1
              have d2 := (HSc.out.low.cell (p := ⟨b2, off2 + k2 * 6 + 2, none⟩) hb2).trans y2
              have d5 := (HSc.out.low.cell (p := ⟨b2, off2 + k2 * 6 + 5, none⟩) hb2).trans y5
              have hfar := HFA.out a (List.mem_of_getElem? hq2)
              have HQ2 := Lib.hid hq2
              clear y0 y1 y2 y3 y4 y5 hBB2 hq2
              obtain ⟨-, p0, p1, plt⟩ := id HSc.out
              go_wp2
              go_quiet (fail)
              have HSq := Lib.hid (HSc.out.below (bdrew (Below.refl _ _) nq))
              clear p0 p1 plt d1 d2 d5
              go_wp2
              go_roundw
              case rel => exact ⟨N2 + a.t.size + a.p.size + a.f.size, k2 + 1, by omega, by go_num, by first | rfl | (congr 1; omega), by omega, HSq.out, fun h => (by
                  obtain ⟨g1, g2⟩ := HG1.out (by omega)
                  exact ⟨by omega, fun x hx => by have h9 := g2 x hx; exact ⟨by omega, by omega⟩⟩), fun j a' hj hjk => by
                  rcases Nat.lt_or_ge j k2 with h | h
                  · have h9 := HG2.out j a' hj h; exact ⟨by omega, by omega, by omega⟩
                  · obtain rfl : j = k2 := by omega
                    rw [HQ2.out] at hj; injection hj with hj; subst hj; exact ⟨by omega, by omega, by omega⟩⟩
              case measure => simp [RowKit.intOf]; omega
            · have hn2z : ¬ (N2 : Int) < 1048576 := by omega
              have htz : (20000 : Int) < (N2 : Int) := by omega
              obtain ⟨-, p0, p1, plt⟩ := id HSc.out
              go_wp2
              go_ret
              exact ⟨true, rfl, (fun h => by cases h), HSc.out.low⟩
          · have hl2z : ¬ (k2 : Int) < (A.length : Int) := by omega
            have hk2e : k2 = A.length := by omega
            have HK2 := Lib.hid hk2e
            clear hk2e
            replace HG2 := Lib.hid (fun j a (hj : A[j]? = some a) (hjl : j < A.length) => HG2.out j a hj (by rw [HK2.out]; exact hjl))
            by_cases ht : 20000 < N2
            · have htz : (20000 : Int) < (N2 : Int) := by omega
              obtain ⟨-, p0, p1, plt⟩ := id HSc.out
              go_wp2
              go_ret
              exact ⟨true, rfl, (fun h => by cases h), HSc.out.low⟩
            · have htz : ¬ (20000 : Int) < (N2 : Int) := by omega
              by_cases ha : 200 < A.length
              · have haz : (200 : Int) < (A.length : Int) := by omega
                obtain ⟨-, p0, p1, plt⟩ := id HSc.out
                go_wp2
                go_ret
                exact ⟨true, rfl, (fun h => by cases h), HSc.out.low⟩
              · have haz : ¬ (200 : Int) < (A.length : Int) := by omega
                have HLi := Lib.hid (show Light S A from by
                  obtain ⟨g1, g2⟩ := HG1.out (by omega)
                  refine ⟨by omega, by omega, fun x hx => ?_, fun a ha => ?_⟩
                  · have h9 := g2 x hx
                    exact ⟨by omega, by omega⟩
                  · obtain ⟨j, hj⟩ := List.getElem?_of_mem ha
                    have h9 := HG2.out j a hj (by first | exact (List.getElem?_eq_some_iff.1 hj).1 | omega)
                    exact ⟨by omega, by omega, by omega⟩)
                obtain ⟨-, p0, p1, plt⟩ := id HSc.out
                go_wp2
                go_ret
                exact ⟨false, rfl, (fun _ => HLi.out), HSc.out.low⟩

    · have hlz : ¬ (k : Int) < (S.length : Int) := by omega
      have HG1 := Lib.hid (show N < 1048576 → S.length ≤ N ∧ ∀ x ∈ S, x.t.size ≤ N ∧ x.p.size ≤ N from fun _ => ⟨hg0, fun x hx => by
        obtain ⟨j, hj⟩ := List.getElem?_of_mem hx
        exact HG.out j x hj (by have := (List.getElem?_eq_some_iff.1 hj).1; omega)⟩)
      obtain ⟨-, p0, p1, plt⟩ := id HSc.out
      clear HG
      go_wp2
      go_loopw [3, 5] (fun vn vi wr => ∃ (N2 k : Nat), k ≤ A.length ∧ vi = .int .i64 k ∧ vn = .int .i64 N2 ∧ N2 ≤ 562949953421312 ∧ Sc w wr w.heap.size (.slice aS S.length cS) (.slice aA A.length cA) ∧ (N2 < 1048576 → S.length ≤ N2 ∧ ∀ x ∈ S, x.t.size ≤ N2 ∧ x.p.size ≤ N2) ∧ (∀ j a, A[j]? = some a → j < k → a.t.size ≤ N2 ∧ a.p.size ≤ N2 ∧ a.f.size ≤ N2)) (fun _ i _ => A.length - (RowKit.intOf i).toNat)
      case atStart => exact ⟨N, 0, by omega, rfl, rfl, by omega, HSc.out, HG1.out, fun j a _ hj => by omega⟩
      case round =>
        obtain ⟨N2, k2, hk2, rfl, rfl, hN2, hsc, hg1, hg2⟩ := hrel
        clear HSc HG1
        have HSc := Lib.hid hsc
        have HG1 := Lib.hid hg1
        have HG2 := Lib.hid hg2
        clear hsc hg1 hg2
        by_cases hl2 : k2 < A.length
        · have hl2z : (k2 : Int) < (A.length : Int) := by omega
          by_cases hn2 : N2 < 1048576
          · have hn2z : (N2 : Int) < 1048576 := by omega
            obtain ⟨b2, off2, rfl, hb2, hBB2⟩ := HA.out (by intro h; simp [h] at hl2)
            obtain ⟨a, hq2⟩ : ∃ a, A[k2]? = some a := ⟨_, List.getElem?_eq_getElem hl2⟩
            obtain ⟨y0, y1, y2, y3, y4, y5⟩ := hBB2 _ a hq2
            have d1 := (HSc.out.low.cell (p := ⟨b2, off2 + k2 * 6 + 1, none⟩) hb2).trans y1
            have d2 := (HSc.out.low.cell (p := ⟨b2, off2 + k2 * 6 + 2, none⟩) hb2).trans y2
            have d5 := (HSc.out.low.cell (p := ⟨b2, off2 + k2 * 6 + 5, none⟩) hb2).trans y5
            have hfar := HFA.out a (List.mem_of_getElem? hq2)
            have HQ2 := Lib.hid hq2
            clear y0 y1 y2 y3 y4 y5 hBB2 hq2
            obtain ⟨-, p0, p1, plt⟩ := id HSc.out
            go_wp2
            go_quiet (fail)
            have HSq := Lib.hid (HSc.out.below (bdrew (Below.refl _ _) nq))
            clear p0 p1 plt d1 d2 d5
            go_wp2
            go_roundw
            case rel => exact ⟨N2 + a.t.size + a.p.size + a.f.size, k2 + 1, by omega, by go_num, by first | rfl | (congr 1; omega), by omega, HSq.out, fun h => (by
                obtain ⟨g1, g2⟩ := HG1.out (by omega)
                exact ⟨by omega, fun x hx => by have h9 := g2 x hx; exact ⟨by omega, by omega⟩⟩), fun j a' hj hjk => by
                rcases Nat.lt_or_ge j k2 with h | h
                · have h9 := HG2.out j a' hj h; exact ⟨by omega, by omega, by omega⟩
                · obtain rfl : j = k2 := by omega
                  rw [HQ2.out] at hj; injection hj with hj; subst hj; exact ⟨by omega, by omega, by omega⟩⟩
            case measure => simp [RowKit.intOf]; omega
          · have hn2z : ¬ (N2 : Int) < 1048576 := by omega
            have htz : (20000 : Int) < (N2 : Int) := by omega
            obtain ⟨-, p0, p1, plt⟩ := id HSc.out
            go_wp2
            go_ret
            exact ⟨true, rfl, (fun h => by cases h), HSc.out.low⟩
        · have hl2z : ¬ (k2 : Int) < (A.length : Int) := by omega
          have hk2e : k2 = A.length := by omega
          have HK2 := Lib.hid hk2e
          clear hk2e
          replace HG2 := Lib.hid (fun j a (hj : A[j]? = some a) (hjl : j < A.length) => HG2.out j a hj (by rw [HK2.out]; exact hjl))
          by_cases ht : 20000 < N2
          · have htz : (20000 : Int) < (N2 : Int) := by omega
            obtain ⟨-, p0, p1, plt⟩ := id HSc.out
            go_wp2
            go_ret
            exact ⟨true, rfl, (fun h => by cases h), HSc.out.low⟩
          · have htz : ¬ (20000 : Int) < (N2 : Int) := by omega
            by_cases ha : 200 < A.length
            · have haz : (200 : Int) < (A.length : Int) := by omega
              obtain ⟨-, p0, p1, plt⟩ := id HSc.out
              go_wp2
              go_ret
              exact ⟨true, rfl, (fun h => by cases h), HSc.out.low⟩
            · have haz : ¬ (200 : Int) < (A.length : Int) := by omega
              have HLi := Lib.hid (show Light S A from by
                obtain ⟨g1, g2⟩ := HG1.out (by omega)
                refine ⟨by omega, by omega, fun x hx => ?_, fun a ha => ?_⟩
                · have h9 := g2 x hx
                  exact ⟨by omega, by omega⟩
                · obtain ⟨j, hj⟩ := List.getElem?_of_mem ha
                  have h9 := HG2.out j a hj (by first | exact (List.getElem?_eq_some_iff.1 hj).1 | omega)
                  exact ⟨by omega, by omega, by omega⟩)
              obtain ⟨-, p0, p1, plt⟩ := id HSc.out
              go_wp2
              go_ret
              exact ⟨false, rfl, (fun _ => HLi.out), HSc.out.low⟩

end Go.Proofs.YtoibdhncfdjdoaaDoor
