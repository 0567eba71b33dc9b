/-
  Topics: the page's own levels, as a list of texts.
-/
import Derived.Test.YtoibdhncfdjdoaaDoorTopG
namespace Go.Proofs.YtoibdhncfdjdoaaDoor
open Go.RowKit Go.Shelf Go.Lib
def SVal (l : Bs) : Value := .string ⟨l.toArray⟩
/-- A slice that reads as a list of texts; there is one at least. -/
def LvAt (w : World) (v : Value) (L : List Bs) : Prop :=
  ∃ g cap, v = .slice (some ⟨g, 0, none⟩) L.length cap ∧ g < w.heap.size ∧ L.length ≤ cap ∧ cap ≤ maxLen ∧ ∀ (j : Nat) u, L[j]? = some u → w.cell? ⟨g, j, none⟩ = some (SVal u)
theorem LvAt.below {w w' : World} {v : Value} {L : List Bs} (h : LvAt w v L) (hb : Below w.heap.size w w') : LvAt w' v L := by
  obtain ⟨g, cap, h1, h2, h3, h4, h5⟩ := h
  exact ⟨g, cap, h1, Nat.lt_of_lt_of_le h2 hb.size, h3, h4, fun j u hu => (hb.cell (p := ⟨g, j, none⟩) h2).trans (h5 j u hu)⟩
theorem LvAt.of_own {w : World} {v : Value} {L : List Bs} {base : Nat} (hown : w.ownsRow base 9 1 v L.length (L.map SVal)) (hne : L ≠ []) : LvAt w v L := by
  have hpos : 0 < L.length := List.length_pos_iff.2 hne
  have hc := fun g hg => World.ownsRow.cells (g := g) hown hg
  obtain ⟨h1, h2⟩ := id hown
  rcases h2 with ⟨rfl, h0⟩ | ⟨g, cap, cur, rfl, hb, hh, hle, hcap, hszz, htake⟩
  · omega
  · have hg : g < w.heap.size := by
      by_cases hq : g < w.heap.size
      · exact hq
      · rw [Array.getElem?_eq_none (by omega)] at hh; cases hh
    refine ⟨g, cap, rfl, hg, hle, hcap, fun j u hu => ?_⟩
    have := hc g rfl j (SVal u) (by rw [List.getElem?_map, hu]; rfl)
    have e : (⟨g, 0, none⟩ : Addr).add j = ⟨g, j, none⟩ := by
      simp only [Addr.add]
      split <;> simp_all
    rw [e] at this
    exact this
def glue (c : Bs) : List Bs → List Bs
  | [] => [c]
  | h :: t => (c ++ h) :: t
theorem glue_nil (l : Bs) : glue [] (levels l) = levels l := by
  have := levels_ne l
  cases h : levels l with
  | nil => exact absurd h this
  | cons a t => rfl
theorem glue_step (c : Bs) (x : UInt8) (l : Bs) (h : ¬ x = 47) : glue c (levels (x :: l)) = glue (c ++ [x]) (levels l) := by
  have e : levels (x :: l) = glue [x] (levels l) := by
    rw [levels, if_neg h]
    cases levels l <;> rfl
  rw [e]
  have := levels_ne l
  cases h : levels l with
  | nil => exact absurd h this
  | cons a t => simp [glue]
theorem glue_slash (c : Bs) (l : Bs) : glue c (levels (47 :: l)) = c :: levels l := by
  rw [levels, if_pos rfl]; simp [glue]
theorem infoStr : (Tryd.prog.info? 9).map (fun i => (i.zero, i.size, i.bytes)) = some (some (.string ⟨#[]⟩), 1, 16) := by kernel_rfl
theorem catB (c : Bs) (s : ByteArray) (k : Nat) (x : UInt8) (h : s.data.toList[k]? = some x) : (⟨c.toArray⟩ : ByteArray) ++ s.extract k (k + 1) = ⟨(c ++ [x]).toArray⟩ := by
  have hk : k < s.data.toList.length := by
    rcases Nat.lt_or_ge k s.data.toList.length with h1 | h1
    · exact h1
    · rw [List.getElem?_eq_none h1] at h; exact absurd h (by simp)
  apply ByteArray.ext
  apply Array.ext'
  have e : (s.extract k (k + 1)).data.toList = [x] := by
    rw [ByteArray.data_extract, Array.toList_extract]
    rw [List.extract_eq_take_drop]
    have : k + 1 - k = 1 := by omega
    rw [this, drop_at h]; rfl
  rw [ByteArray.data_append, Array.toList_append, e]
set_option maxHeartbeats 4000000 in
set_option maxRecDepth 100000 in
theorem levels_any (s : ByteArray) (w : World) (hs : s.size < 1000000) :
    Calls Tryd.prog 53 #[.string s] w fun e w' => ∃ v, e = .returned v ∧ Below w.heap.size w w' ∧ LvAt w' v (levels s.data.toList) := by
  obtain ⟨i0, hi, hz0, hz1, hz2⟩ := info_parts infoStr
  obtain ⟨LS, hLS⟩ : ∃ LS, levels s.data.toList = LS := ⟨_, rfl⟩
  rw [hLS]
  have HLS := Lib.hid hLS
  clear hLS
  go_enter Tryd.func53, Tryd.ntmps53
  go_wp2
  go_loopw [3, 4, 5] (fun vl vc i wr => ∃ (k : Nat) (c : Bs) (D : List Bs), i = .int .i64 k ∧ vc = SVal c ∧ c.length ≤ k ∧ D.length ≤ k ∧ Below w.heap.size w wr ∧ wr.ownsRow w.heap.size 9 1 vl D.length (D.map SVal) ∧ ((k ≤ s.size ∧ LS = D ++ glue c (levels (s.data.toList.drop k))) ∨ (k = s.size + 1 ∧ LS = D))) (fun _ _ i _ => s.size + 1 - (RowKit.intOf i).toNat)
  case atStart => exact ⟨0, [], [], rfl, rfl, by simp, by simp, Below.refl _ _, World.ownsRow_nil _ _ _ _, .inl ⟨by omega, by rw [← HLS.out]; exact (glue_nil _).symm⟩⟩
  case round =>
    obtain ⟨k, c, D, rfl, rfl, hck, hDk, hbl, hown, hinv⟩ := hrel
    rcases hinv with ⟨hk, hinv⟩ | ⟨hk, hinv⟩
    · have HI := Lib.hid hinv
      clear hinv
      have hkz : (k : Int) ≤ (s.size : Int) := by omega
      by_cases hlt : k < s.size
      · have hltz : (k : Int) < (s.size : Int) := by omega
        obtain ⟨x, hx⟩ : ∃ x : UInt8, s[k]'hlt = x := ⟨_, rfl⟩
        have hxl : s.data.toList[k]? = some x := by rw [← hx]; exact Lib.data_getElem? s k hlt
        by_cases h47 : x = 47
        · have hx0 : ((s[k]'hlt).toNat : Int) = 47 := by rw [hx, h47]; rfl
          have hb47 : (((s[k]'hlt).toNat : Int) != 47) = false := by rw [hx0]; rfl
          have hinv2 : LS = (D ++ [c]) ++ glue [] (levels (s.data.toList.drop (k + 1))) := by
            rw [HI.out, drop_at hxl, h47, glue_slash, glue_nil]; simp
          have HI2 := Lib.hid hinv2
          clear hinv2 hx hxl h47
          have hsz := hbl.size
          unfold SVal
          go_wp2_with (first
            | (at_builtin; refine wpList_append_own _ rfl _ _ 85 rfl w.heap.size 9 i0 (.string ⟨#[]⟩) 1 16 Tryd.underlying85 hi hz0 hz1 hz2 rfl (by decide) _ _ _ rfl (hown.alloc _) ⟨wr.heap.size, 0, none⟩ 1 1 [SVal c] rfl rfl ?c1 ?c2 ?c3 ?c4 ?c5 ?_))
          case c1 =>
            intro j u hj
            match j, hj with
            | 0, hj => simp at hj; subst hj; simp [Addr.add, SVal]
          case c2 => intro u hu; simp at hu; subst hu; rfl
          case c3 => unfold maxLen; omega
          case c4 => omega
          case c5 => simp; omega
          intro v' w1 hown' hgrow _
          have hb2 : Below w.heap.size w w1 := (hbl.alloc hbl.size _).grown hgrow (by simp; omega) (by intro k hk; exact (hown.lt k hk).1)
          have ho2 : w1.ownsRow w.heap.size 9 1 v' (D ++ [c]).length ((D ++ [c]).map SVal) := by
            rw [List.length_append, List.map_append]; exact hown'
          have HO := Lib.hid ho2
          have HB := Lib.hid hb2
          clear hown' hgrow hown hbl ho2 hb2
          go_wp2
          go_roundw
          case rel => exact ⟨k + 1, [], D ++ [c], by go_num, rfl, by simp, by simp; omega, HB.out, HO.out, .inl ⟨by omega, HI2.out⟩⟩
          case measure => simp [RowKit.intOf]; omega
        · have hx0 : ¬ ((s[k]'hlt).toNat : Int) = 47 := by
            rw [hx]; intro h; exact h47 (UInt8.toNat_inj.1 (by show x.toNat = 47; omega))
          have hinv2 : LS = D ++ glue (c ++ [x]) (levels (s.data.toList.drop (k + 1))) := by
            rw [HI.out, drop_at hxl, glue_step _ _ _ h47]
          have HI2 := Lib.hid hinv2
          have hcat := catB c s k x hxl
          have hlim : ¬ (9223372036854775807 < List.length c + (min (k + 1) s.size - k)) := by omega
          have hb47 : (((s[k]'hlt).toNat : Int) != 47) = true := bne_iff_ne.2 hx0
          have HO := Lib.hid hown
          have HB := Lib.hid hbl
          clear hinv2 hx hxl h47 hown hbl
          unfold SVal
          go_wp2
          go_roundw
          case rel => exact ⟨k + 1, c ++ [x], D, by go_num, rfl, by simp; omega, by omega, HB.out, HO.out, .inl ⟨by omega, HI2.out⟩⟩
          case measure => simp [RowKit.intOf]; omega
      · obtain rfl : k = s.size := by omega
        have hinv2 : LS = D ++ [c] := by
          rw [HI.out, List.drop_eq_nil_of_le (by rw [← Lib.size_eq]; exact Nat.le_refl _)]
          simp [levels, glue]
        have HI2 := Lib.hid hinv2
        clear hinv2
        have hsz := hbl.size
        unfold SVal
        go_wp2_with (first
          | (at_builtin; refine wpList_append_own _ rfl _ _ 85 rfl w.heap.size 9 i0 (.string ⟨#[]⟩) 1 16 Tryd.underlying85 hi hz0 hz1 hz2 rfl (by decide) _ _ _ rfl (hown.alloc _) ⟨wr.heap.size, 0, none⟩ 1 1 [SVal c] rfl rfl ?c1 ?c2 ?c3 ?c4 ?c5 ?_))
        case c1 =>
          intro j u hj
          match j, hj with
          | 0, hj => simp at hj; subst hj; simp [Addr.add, SVal]
        case c2 => intro u hu; simp at hu; subst hu; rfl
        case c3 => unfold maxLen; omega
        case c4 => omega
        case c5 => simp; omega
        intro v' w1 hown' hgrow _
        have hb2 : Below w.heap.size w w1 := (hbl.alloc hbl.size _).grown hgrow (by simp; omega) (by intro k hk; exact (hown.lt k hk).1)
        have ho2 : w1.ownsRow w.heap.size 9 1 v' (D ++ [c]).length ((D ++ [c]).map SVal) := by
          rw [List.length_append, List.map_append]; exact hown'
        have HO := Lib.hid ho2
        have HB := Lib.hid hb2
        clear hown' hgrow hown hbl ho2 hb2
        go_wp2
        go_roundw
        case rel => exact ⟨s.size + 1, [], D ++ [c], by go_num, rfl, by simp, by simp; omega, HB.out, HO.out, .inr ⟨rfl, HI2.out⟩⟩
        case measure => simp [RowKit.intOf]
    · subst hk
      subst hinv
      have hne := levels_ne s.data.toList
      rw [HLS.out] at hne
      have HR := LvAt.of_own hown hne
      have HRR := Lib.hid HR
      have HB := Lib.hid hbl
      clear HR hown hbl hne
      go_wp2
      go_ret
      exact ⟨_, rfl, HB.out, HRR.out⟩
end Go.Proofs.YtoibdhncfdjdoaaDoor
