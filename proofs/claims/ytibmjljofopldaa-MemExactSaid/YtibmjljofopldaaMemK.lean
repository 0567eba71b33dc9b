/-
  Memory: the reference's Read and Write; both sides, in one form.
-/
import Derived.Test.YtibmjljofopldaaMemJ
import Derived.Test.YtibmjljofopldaaScr
namespace Go.Proofs.Ytibmjljofopldaa
open Go.RowKit
theorem rRead_neg (g : Nat) (a n : Int) (w : World) (h : n < 0) :
    Calls Try.prog 22 #[.pointer (some ⟨g, 0, none⟩), .int .i64 a, .int .i64 n] w fun e w' => e = .returned (.tuple #[.slice none 0 0, .int .i64 1]) ∧ w = w' := by
  go_enter Try.func22, Try.ntmps22
  go_wp2
  exact bodyPost_ret (v := .tuple #[.slice none 0 0, .int .i64 1]) (by simp [results, Try.results22, go_sem]) rfl ⟨rfl, rfl⟩
theorem rRead_out (g : Nat) (a n : Int) (ao : Option Addr) (N cap : Nat) (w : World) (hc : w.cell? ⟨g, 0, none⟩ = some (.slice ao N cap)) (hN : N ≤ 1000000) (h0 : 0 ≤ n) (h1 : n ≤ 9223372036854775807) (hh : ¬ (0 ≤ a ∧ a ≤ (N : Int) - n)) :
    Calls Try.prog 22 #[.pointer (some ⟨g, 0, none⟩), .int .i64 a, .int .i64 n] w fun e w' => e = .returned (.tuple #[.slice none 0 0, .int .i64 2]) ∧ w = w' := by
  have B := Lib.hid (rin_any g a n ao N cap w false hc hN h0 h1 (by simpa using hh))
  clear hc hh
  go_enter Try.func22, Try.ntmps22
  go_wp2_with fail
  refine B.out.mono ?_
  rintro e w' ⟨rfl, rfl⟩
  go_wp2
  exact bodyPost_ret (v := .tuple #[.slice none 0 0, .int .i64 2]) (by simp [results, Try.results22, go_sem]) rfl ⟨rfl, rfl⟩
set_option maxRecDepth 100000 in
theorem rRead_in (g b off i n : Nat) (l : List UInt8) (cap : Nat) (w : World) (hc : w.cell? ⟨g, 0, none⟩ = some (.slice (some ⟨b, off, none⟩) l.length cap)) (hS : Sl w (.slice (some ⟨b, off, none⟩) l.length cap) l) (hN : l.length ≤ 1000000) (hh : i + n ≤ l.length) :
    Calls Try.prog 22 #[.pointer (some ⟨g, 0, none⟩), .int .i64 i, .int .i64 n] w fun e w' => ∃ v', e = .returned (.tuple #[v', .int .i64 0]) ∧ Below w.heap.size w w' ∧ w'.ownsRow w.heap.size 5 1 v' n (((l.drop i).take n).map B8) := by
  have B := Lib.hid (rin_any g i n (some ⟨b, off, none⟩) l.length cap w true hc (by omega) (by omega) (by omega) (by simp; omega))
  have hcap : l.length ≤ cap := by obtain ⟨_, c, hv, h1, -⟩ := hS; cases hv; exact h1
  have hadd : IntKind.i64.wrap ((i : Int) + (n : Int)) = (i : Int) + (n : Int) := IntWalk.i64_in _ ⟨by omega, by omega⟩
  by_cases hic : i = cap
  · obtain rfl : n = 0 := by omega
    have C := Lib.hid (copyBytes_any _ [] w (by simp) (Sl.none_left w (some ⟨b, off, none⟩)))
    have hll : ((l.drop i).take 0) = [] := by simp
    rw [hll]
    clear hS hll
    subst hic
    go_enter Try.func22, Try.ntmps22
    go_wp2_with fail
    refine B.out.mono ?_
    rintro e w' ⟨rfl, rfl⟩
    go_wp2_with fail
    refine C.out.mono ?_
    rintro e w1 ⟨v1, rfl, hb1, ho1⟩
    go_wp2
    exact bodyPost_ret (v := .tuple #[v1, .int .i64 0]) (by simp [results, Try.results22, go_sem]) rfl ⟨_, rfl, hb1, ho1⟩
  · have hll : ((l.drop i).take n).length = n := by simp; omega
    have C := copyBytes_any _ ((l.drop i).take n) w (by omega) (hS.mid i n hh)
    rw [hll] at C
    have C := Lib.hid C
    have hi1 : (i = cap) = False := by simp [hic]
    have hi2 : (cap = i) = False := by simp; omega
    clear hS hll hic
    go_enter Try.func22, Try.ntmps22
    go_wp2_with fail
    refine B.out.mono ?_
    rintro e w' ⟨rfl, rfl⟩
    go_wp2_with fail
    refine C.out.mono ?_
    rintro e w1 ⟨v1, rfl, hb1, ho1⟩
    go_wp2
    exact bodyPost_ret (v := .tuple #[v1, .int .i64 0]) (by simp [results, Try.results22, go_sem]) rfl ⟨_, rfl, hb1, ho1⟩
theorem rWrite_out (g : Nat) (a : Int) (x : List UInt8) (vx : Value) (ao : Option Addr) (N cap : Nat) (w : World) (hc : w.cell? ⟨g, 0, none⟩ = some (.slice ao N cap)) (hN : N ≤ 1000000) (hx : Sl w vx x) (hxl : x.length ≤ 1000000) (hh : ¬ (0 ≤ a ∧ a ≤ (N : Int) - x.length)) :
    Calls Try.prog 27 #[.pointer (some ⟨g, 0, none⟩), .int .i64 a, vx] w fun e w' => e = .returned (.int .i64 2) ∧ w = w' := by
  have B := Lib.hid (rin_any g a x.length ao N cap w false hc hN (by omega) (by omega) (by simpa using hh))
  obtain ⟨xa, xc, rfl, -⟩ := hx
  clear hc hh
  go_enter Try.func27, Try.ntmps27
  go_wp2_with fail
  refine B.out.mono ?_
  rintro e w' ⟨rfl, rfl⟩
  go_wp2
  exact bodyPost_ret (v := .int .i64 2) (by simp [results, Try.results27, go_sem]) rfl ⟨rfl, rfl⟩
set_option maxRecDepth 100000 in
theorem rWrite_in (base g b i N cap : Nat) (x l : List UInt8) (vx : Value) (w : World) (hc : w.cell? ⟨g, 0, none⟩ = some (.slice (some ⟨b, 0, none⟩) N cap)) (hO : w.ownsRow base 5 1 (.slice (some ⟨b, 0, none⟩) N cap) N (l.map B8)) (hN : N ≤ 1000000) (hx : Sl w vx x) (hi : i + x.length ≤ N) :
    Calls Try.prog 27 #[.pointer (some ⟨g, 0, none⟩), .int .i64 i, vx] w fun e w' => e = .returned (.int .i64 0) ∧ w.grownBy w' (some b) ∧ w'.heap.size = w.heap.size ∧ w'.ownsRow base 5 1 (.slice (some ⟨b, 0, none⟩) N cap) N ((splice l i x).map B8) := by
  have B := Lib.hid (rin_any g i x.length (some ⟨b, 0, none⟩) N cap w true hc (by omega) (by omega) (by omega) (by simp; omega))
  have hcap : N ≤ cap ∧ cap ≤ maxLen := by
    obtain ⟨_, h2⟩ := hO
    rcases h2 with ⟨h2, -⟩ | ⟨g', cap', cur, hv, hbg, hh, hle, hcap, hcs, htake⟩
    · cases h2
    · cases hv; exact ⟨hle, hcap⟩
  have hcm : cap ≤ 9223372036854775807 := by simpa [maxLen] using hcap.2
  have HX := Lib.hid hx
  obtain ⟨xa, xc, rfl, -⟩ := hx
  have HO := Lib.hid hO; clear hO
  obtain ⟨hcap1, -⟩ := hcap
  have hiN : (i : Int) ≤ (N : Int) := by omega
  by_cases hic : i = cap
  · subst hic
    obtain rfl : x = [] := List.eq_nil_of_length_eq_zero (by omega)
    replace B := Lib.hid (show Calls Try.prog 53 #[.pointer (some ⟨g, 0, none⟩), .int .i64 i, .int .i64 0] w (fun e w' => e = .returned (.bool true) ∧ w = w') from B.out)
    replace HX := Lib.hid (show Sl w (.slice xa 0 xc) [] from HX.out)
    rw [List.length_nil]
    have hcp := run_copy_none (P := Try.prog) w 34 34 3 5 (some ⟨b, 0, none⟩) xa 0 0 0 xc Try.underlying34 szU8m rfl
    go_enter Try.func27, Try.ntmps27
    go_wp2_with fail
    refine B.out.mono ?_
    rintro e w' ⟨rfl, rfl⟩
    go_wp2
    exact bodyPost_ret (v := .int .i64 0) (by simp [results, Try.results27, go_sem]) rfl ⟨rfl, grown_refl _ _, rfl, by rw [splice_nil]; exact HO.out⟩
  · have hi1 : (i = cap) = False := by simp [hic]
    have hi2 : (cap = i) = False := by simp; omega
    go_enter Try.func27, Try.ntmps27
    go_wp2_with fail
    refine B.out.mono ?_
    rintro e w' ⟨rfl, rfl⟩
    go_wp2_with (refine wpList_copyAll rfl _ _ 34 34 rfl 5 Try.underlying34 szU8m base b i N cap l x HO.out _ _ _ rfl rfl (fun _ => rfl) _ rfl HX.out hi ?_; intro w2 ho2 hg2 hs2)
    exact bodyPost_ret (v := .int .i64 0) (by simp [results, Try.results27, go_sem]) rfl ⟨rfl, hg2, hs2, ho2⟩
/-! both sides, in one form -/
def getF (l : List UInt8) (N : Nat) (a k : Int) : Int := if numE N a k = 0 then lev (seg l a.toNat k.toNat) else 0
def putF (l : List UInt8) (N : Nat) (a k v : Int) : List UInt8 := if numE N a k = 0 then putk l a.toNat v k.toNat else l
def rdE (N : Nat) (a k : Int) : Int := if k < 0 then 1 else if 0 ≤ a ∧ a ≤ (N : Int) - k then 0 else 2
def rdF (l : List UInt8) (N : Nat) (a k : Int) : List UInt8 := if rdE N a k = 0 then (l.drop a.toNat).take k.toNat else []
def wrF (l : List UInt8) (N : Nat) (a : Int) (x : List UInt8) : List UInt8 := if inE N a x.length = 0 then splice l a.toNat x else l
theorem rdE_ok {N : Nat} {a k : Int} (h : rdE N a k = 0) : 0 ≤ k ∧ 0 ≤ a ∧ a ≤ (N : Int) - k := by
  unfold rdE at h
  split at h
  · omega
  · split at h
    · exact ⟨by omega, by assumption⟩
    · omega
theorem rdF_len (l : List UInt8) (N : Nat) (a k : Int) (hl : l.length = N) : (rdF l N a k).length ≤ N := by
  unfold rdF; split
  · simp; omega
  · simp
def GetC (f : FuncId) : Prop := ∀ (w : World) (base g b n : Nat) (l : List UInt8), MemAt w base g b n l → n ≤ 65536 → ∀ a k : Int,
  Calls Try.prog f #[.pointer (some ⟨g, 0, none⟩), .int .i64 a, .int .i64 k] w fun e w' => e = .returned (.tuple #[.int .u64 (getF l n a k), .int .i64 (numE n a k)]) ∧ ∃ m, w' = w.drewN m
def PutC (f : FuncId) : Prop := ∀ (w : World) (base g b n : Nat) (l : List UInt8), MemAt w base g b n l → n ≤ 65536 → ∀ a k v : Int,
  Calls Try.prog f #[.pointer (some ⟨g, 0, none⟩), .int .i64 a, .int .i64 k, .int .u64 v] w fun e w' => e = .returned (.int .i64 (numE n a k)) ∧ w.grownBy w' (some b) ∧ MemAt w' base g b n (putF l n a k v)
def ReadC (f : FuncId) : Prop := ∀ (w : World) (base g b n : Nat) (l : List UInt8), MemAt w base g b n l → n ≤ 65536 → ∀ a k : Int, k ≤ 9223372036854775807 →
  Calls Try.prog f #[.pointer (some ⟨g, 0, none⟩), .int .i64 a, .int .i64 k] w fun e w' => ∃ v', e = .returned (.tuple #[v', .int .i64 (rdE n a k)]) ∧ Below w.heap.size w w' ∧ w'.ownsRow w.heap.size 5 1 v' (rdF l n a k).length ((rdF l n a k).map B8)
def WriteC (f : FuncId) : Prop := ∀ (w : World) (base g b n : Nat) (l : List UInt8), MemAt w base g b n l → n ≤ 65536 → ∀ (a : Int) (x : List UInt8) (vx : Value), Sl w vx x → x.length ≤ 1000000 →
  Calls Try.prog f #[.pointer (some ⟨g, 0, none⟩), .int .i64 a, vx] w fun e w' => e = .returned (.int .i64 (inE n a x.length)) ∧ w.grownBy w' (some b) ∧ MemAt w' base g b n (wrF l n a x)
theorem getC_m : GetC 28 := by
  intro w base g b n l h hn a k
  by_cases h0 : numE n a k = 0
  · obtain ⟨hk, ha, hak⟩ := numE_ok h0
    obtain ⟨i, rfl⟩ := Int.eq_ofNat_of_zero_le ha
    obtain ⟨j, rfl⟩ := Int.eq_ofNat_of_zero_le (show 0 ≤ k by omega)
    rw [getF, if_pos h0, h0]
    exact memGet_ok g b 0 i j n n l w h.1 (Sl.of_own h.2.1).1 (by omega) (by omega) (by omega)
  · rw [getF, if_neg h0]
    exact (memGet_bad g a k _ n n w h.1 (by omega) h0).mono fun e w' q => ⟨q.1, 0, q.2.symm⟩
theorem getC_r : GetC 29 := by
  intro w base g b n l h hn a k
  by_cases h0 : numE n a k = 0
  · obtain ⟨hk, ha, hak⟩ := numE_ok h0
    obtain ⟨i, rfl⟩ := Int.eq_ofNat_of_zero_le ha
    obtain ⟨j, rfl⟩ := Int.eq_ofNat_of_zero_le (show 0 ≤ k by omega)
    rw [getF, if_pos h0, h0]
    exact (rGet_ok g b 0 i j n n l w h.1 (Sl.of_own h.2.1).1 (by omega) (by omega) (by omega)).mono fun e w' q => ⟨q.1, 0, q.2.symm⟩
  · rw [getF, if_neg h0]
    exact (rGet_bad g a k _ n n w h.1 (by omega) h0).mono fun e w' q => ⟨q.1, 0, q.2.symm⟩
theorem putC_m : PutC 19 := by
  intro w base g b n l h hn a k v
  by_cases h0 : numE n a k = 0
  · obtain ⟨hk, ha, hak⟩ := numE_ok h0
    obtain ⟨i, rfl⟩ := Int.eq_ofNat_of_zero_le ha
    obtain ⟨j, rfl⟩ := Int.eq_ofNat_of_zero_le (show 0 ≤ k by omega)
    rw [putF, if_pos h0, h0]
    exact (memPut_ok base g b i j n n v l w h.1 h.2.1 h.2.2.1 (by omega) (by omega) (by omega)).mono fun e w' q => ⟨q.1, q.2.1, h.grown q.2.1 q.2.2.2⟩
  · rw [putF, if_neg h0]
    exact (memPut_bad g a k _ n n w h.1 (by omega) h0 v).mono fun e w' q => by obtain ⟨rfl, rfl⟩ := q; exact ⟨rfl, grown_refl _ _, h⟩
theorem putC_r : PutC 20 := by
  intro w base g b n l h hn a k v
  by_cases h0 : numE n a k = 0
  · obtain ⟨hk, ha, hak⟩ := numE_ok h0
    obtain ⟨i, rfl⟩ := Int.eq_ofNat_of_zero_le ha
    obtain ⟨j, rfl⟩ := Int.eq_ofNat_of_zero_le (show 0 ≤ k by omega)
    rw [putF, if_pos h0, h0]
    exact (rPut_ok base g b i j n n v l w h.1 h.2.1 h.2.2.1 (by omega) (by omega) (by omega)).mono fun e w' q => ⟨q.1, q.2.1, h.grown q.2.1 q.2.2.2⟩
  · rw [putF, if_neg h0]
    exact (rPut_bad g a k _ n n w h.1 (by omega) h0 v).mono fun e w' q => by obtain ⟨rfl, rfl⟩ := q; exact ⟨rfl, grown_refl _ _, h⟩
theorem readC_of (f : FuncId) (hneg : ∀ (g : Nat) (a n : Int) (w : World), n < 0 → Calls Try.prog f #[.pointer (some ⟨g, 0, none⟩), .int .i64 a, .int .i64 n] w fun e w' => e = .returned (.tuple #[.slice none 0 0, .int .i64 1]) ∧ w = w')
    (hout : ∀ (g : Nat) (a n : Int) (ao : Option Addr) (N cap : Nat) (w : World), w.cell? ⟨g, 0, none⟩ = some (.slice ao N cap) → N ≤ 1000000 → 0 ≤ n → n ≤ 9223372036854775807 → ¬ (0 ≤ a ∧ a ≤ (N : Int) - n) → Calls Try.prog f #[.pointer (some ⟨g, 0, none⟩), .int .i64 a, .int .i64 n] w fun e w' => e = .returned (.tuple #[.slice none 0 0, .int .i64 2]) ∧ w = w')
    (hin : ∀ (g b off i n : Nat) (l : List UInt8) (cap : Nat) (w : World), w.cell? ⟨g, 0, none⟩ = some (.slice (some ⟨b, off, none⟩) l.length cap) → Sl w (.slice (some ⟨b, off, none⟩) l.length cap) l → l.length ≤ 1000000 → i + n ≤ l.length →
      Calls Try.prog f #[.pointer (some ⟨g, 0, none⟩), .int .i64 i, .int .i64 n] w fun e w' => ∃ v', e = .returned (.tuple #[v', .int .i64 0]) ∧ Below w.heap.size w w' ∧ w'.ownsRow w.heap.size 5 1 v' n (((l.drop i).take n).map B8)) : ReadC f := by
  intro w base g b n l h hn a k hk
  by_cases h0 : rdE n a k = 0
  · obtain ⟨hk0, ha, hak⟩ := rdE_ok h0
    obtain ⟨i, rfl⟩ := Int.eq_ofNat_of_zero_le ha
    obtain ⟨j, rfl⟩ := Int.eq_ofNat_of_zero_le hk0
    rw [rdF, if_pos h0, h0]
    have hl := h.len
    have hc := h.1
    have hS := (Sl.of_own h.2.1).1
    subst hl
    have hlen : ((l.drop i).take j).length = j := by simp; omega
    refine (hin g b 0 i j l l.length w hc hS (by omega) (by omega)).mono ?_
    rintro e w' ⟨v', rfl, hb, ho⟩
    refine ⟨v', rfl, hb, ?_⟩
    simp only [Int.toNat_natCast]
    rw [hlen]; exact ho
  · rw [rdF, if_neg h0]
    unfold rdE at h0 ⊢
    by_cases hk0 : k < 0
    · rw [if_pos hk0]
      refine (hneg g a k w hk0).mono ?_
      rintro e w' ⟨rfl, rfl⟩
      exact ⟨_, rfl, Below.refl _ _, World.ownsRow_nil _ _ _ _⟩
    · rw [if_neg hk0] at h0 ⊢
      by_cases hh : 0 ≤ a ∧ a ≤ (n : Int) - k
      · rw [if_pos hh] at h0; exact absurd rfl h0
      · rw [if_neg hh]
        refine (hout g a k _ n n w h.1 (by omega) (by omega) hk hh).mono ?_
        rintro e w' ⟨rfl, rfl⟩
        exact ⟨_, rfl, Below.refl _ _, World.ownsRow_nil _ _ _ _⟩
theorem readC_m : ReadC 21 := readC_of _ memRead_neg (fun g a n ao N cap w hc hN h0 h1 hh => memRead_out g a n ao N cap w hc (by omega) h0 h1 hh) memRead_in
theorem readC_r : ReadC 22 := readC_of _ rRead_neg rRead_out rRead_in
theorem inE_ok {N : Nat} {a : Int} {k : Nat} (h : inE N a k = 0) : 0 ≤ a ∧ a ≤ (N : Int) - k := by
  unfold inE at h; split at h
  · assumption
  · omega
theorem inE_bad {N : Nat} {a : Int} {k : Nat} (h : ¬ inE N a k = 0) : inE N a k = 2 ∧ ¬ (0 ≤ a ∧ a ≤ (N : Int) - k) := by
  unfold inE at h ⊢; split at h
  · exact absurd rfl h
  · rename_i q; exact ⟨by rw [if_neg q], q⟩
theorem writeC_m : WriteC 26 := by
  intro w base g b n l h hn a x vx hx hxl
  by_cases h0 : inE n a x.length = 0
  · obtain ⟨ha, hak⟩ := inE_ok h0
    obtain ⟨i, rfl⟩ := Int.eq_ofNat_of_zero_le ha
    rw [wrF, if_pos h0, h0]
    exact (memWrite_in base g b i n n x l vx w h.1 h.2.1 (by omega) hx (by omega)).mono fun e w' q => ⟨q.1, q.2.1, h.grown q.2.1 q.2.2.2⟩
  · obtain ⟨h1, h2⟩ := inE_bad h0
    rw [wrF, if_neg h0, h1]
    exact (memWrite_out g a x vx _ n n w h.1 (by omega) hx hxl h2).mono fun e w' q => by obtain ⟨rfl, rfl⟩ := q; exact ⟨rfl, grown_refl _ _, h⟩
theorem writeC_r : WriteC 27 := by
  intro w base g b n l h hn a x vx hx hxl
  by_cases h0 : inE n a x.length = 0
  · obtain ⟨ha, hak⟩ := inE_ok h0
    obtain ⟨i, rfl⟩ := Int.eq_ofNat_of_zero_le ha
    rw [wrF, if_pos h0, h0]
    exact (rWrite_in base g b i n n x l vx w h.1 h.2.1 (by omega) hx (by omega)).mono fun e w' q => ⟨q.1, q.2.1, h.grown q.2.1 q.2.2.2⟩
  · obtain ⟨h1, h2⟩ := inE_bad h0
    rw [wrF, if_neg h0, h1]
    exact (rWrite_out g a x vx _ n n w h.1 (by omega) hx hxl h2).mono fun e w' q => by obtain ⟨rfl, rfl⟩ := q; exact ⟨rfl, grown_refl _ _, h⟩
end Go.Proofs.Ytibmjljofopldaa
