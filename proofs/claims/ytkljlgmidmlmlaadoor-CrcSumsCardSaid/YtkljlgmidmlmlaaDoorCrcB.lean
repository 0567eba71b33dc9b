/-
  The asks of layer 5, read; what the listed variable gives; kiosklaw5.wakes.
-/
import Derived.Test.YtkljlgmidmlmlaaDoorCrcA
import Derived.Test.YtkljlgmidmlmlaaDoorRead
import Derived.Test.YtkljlgmidmlmlaaDoorWithin
import Derived.LaidMore
import Derived.Stop.Joined
import Derived.Lib.SlBytesConst
namespace Go.Proofs.YtkljlgmidmlmlaaDoor
open Go.RowKit Go.ChangeShapes Go.WideShapes Go.ChangeAt
theorem crc9 : crcS 0#32 [49, 50, 51, 52, 53, 54, 55, 56, 57] = 0xcbf43926#32 := by decide +kernel
theorem Sl.lit2 (w : World) (l : List UInt8) (e : TypeId) (fr : Nat × Nat) (hm : l.length ≤ maxLen) : Sl (w.alloc (.cells (l.map B8).toArray e fr)) (.slice (some ⟨w.heap.size, 0, none⟩) l.length l.length) l := by
  refine ⟨_, l.length, rfl, Nat.le_refl _, hm, by simp, fun _ => ⟨_, _, rfl, by simp, fun i x hx => ?_⟩⟩
  have h : (w.alloc (.cells (l.map B8).toArray e fr)).heap[w.heap.size]? = some (.cells (l.map B8).toArray e fr) := by
    show (w.heap.push _)[w.heap.size]? = _
    simp
  simp only [World.cell?, h, Option.isSome_none, Bool.false_eq_true, if_false, Nat.zero_add]
  simp [hx]
theorem wakes5_any (w : World) (ht : Tab w) :
    Calls Tryd.prog 9 #[] w fun e w' => e = .returned (.bool true) ∧ Below w.heap.size w w' := by
  have hS := Sl.lit2 w [49, 50, 51, 52, 53, 54, 55, 56, 57] 5 (9, 10) (by decide)
  have hb : Below w.heap.size w (w.alloc (.cells ([49, 50, 51, 52, 53, 54, 55, 56, 57].map B8).toArray 5 (9, 10))) := (Below.refl _ _).alloc (Nat.le_refl _) _
  have C := crcSum_any 0#32 _ _ _ (by decide) hS (ht.below hb)
  rw [crc9] at C
  have C1 := Lib.hid (show Calls Tryd.prog 6 #[.int .u32 0, .slice (some ⟨w.heap.size, 0, none⟩) 9 9] (w.alloc (.cells #[.int .u8 49, .int .u8 50, .int .u8 51, .int .u8 52, .int .u8 53, .int .u8 54, .int .u8 55, .int .u8 56, .int .u8 57] 5 (9, 10))) (fun e w' => e = .returned (.int .u32 3421780262) ∧ (w.alloc (.cells #[.int .u8 49, .int .u8 50, .int .u8 51, .int .u8 52, .int .u8 53, .int .u8 54, .int .u8 55, .int .u8 56, .int .u8 57] 5 (9, 10))) = w') from C)
  clear C hS
  have kc := fun (w : World) (C : Array Value) (n c : Nat) => Lib.run_convert_bytes_const (P := Tryd.prog) w 24 5 C n c Tryd.underlying24 Tryd.underlying5
  go_enter Tryd.func9, Tryd.ntmps9
  go_wp2_with fail
  refine C1.out.mono ?_
  rintro e w' ⟨rfl, rfl⟩
  go_wp2
  go_ret
  exact ⟨rfl, hb⟩
/-- One of the asks of layer 5: a sum, bytes, a place. -/
structure Ask5 where
  S : W32
  B : List UInt8
  N : Int
def Ask5.At (w : World) (b off : Nat) (q : Ask5) : Prop :=
  w.cell? ⟨b, off, none⟩ = some (U q.S) ∧ (∃ v, w.cell? ⟨b, off + 1, none⟩ = some v ∧ Sl w v q.B) ∧ w.cell? ⟨b, off + 2, none⟩ = some (.int .i64 q.N) ∧ (-9223372036854775808 ≤ q.N ∧ q.N < 9223372036854775808)
theorem cI : Tryd.prog.cellsOf 3 = 1 := by kernel_rfl
theorem cB : Tryd.prog.cellsOf 24 = 1 := by kernel_rfl
theorem cU : Tryd.prog.cellsOf 23 = 1 := by kernel_rfl
theorem asks5_of (W : World) (v : Value) (h : Rd Tryd.prog W 22 [v]) : ∃ L : List Ask5, SlOf W 3 (fun w b off q => Ask5.At w b off q) v L := by
  obtain ⟨v', L, hv, hL⟩ := h.slOf (p := fun w b off q => Ask5.At w b off q) (size := 3) Tryd.underlying22 (by kernel_rfl) (by decide) (by
    intro b off cs' hb hc hr
    obtain ⟨hlen, hf⟩ := hr.struct Tryd.underlying26
    match cs', hc.1 with
    | [c0, c1, c2], _ =>
      obtain ⟨s, hs, hs1, hs2⟩ := (hf 0 _ rfl).u32 Tryd.underlying23
      obtain ⟨vb, l, hvb, hS⟩ := (hf 1 _ rfl).bytes Tryd.underlying24 (by kernel_rfl) Tryd.underlying5
      obtain ⟨n, hn, hn1, hn2⟩ := (hf 2 _ rfl).i64 Tryd.underlying3
      have e0 : c0 = .int .u32 s := by simpa [cU] using hs
      have e1 : c1 = vb := by simpa [cB] using hvb
      have e2 : c2 = .int .i64 n := by simpa [cI] using hn
      subst e0 e1 e2
      have hsU : Value.int .u32 s = U (BitVec.ofNat 32 s.toNat) := U_eq (by rw [BitVec.toNat_ofNat]; omega)
      refine ⟨⟨BitVec.ofNat 32 s.toNat, l, n⟩, by rw [← hsU]; exact hc.2 0 (by omega), ⟨_, hc.2 1 (by omega), hS⟩, hc.2 2 (by omega), ⟨hn1, hn2⟩⟩)
  obtain rfl : v = v' := by simpa using hv
  exact ⟨L, hL⟩
abbrev laid1 : List (String × DataW Unit) := [("kiosk/crc.halves", Rows.laid_kiosk_crc_halves)]
theorem gHalves : Tryd.prog.globalNamed "kiosk/crc.halves" = some 0 := by kernel_rfl
theorem tHalves : (Tryd.prog.globals[0]?).map (·.type) = some 34 := by kernel_rfl
theorem door_met (os : Os) (args : Array Value) : laidMetH Tryd.prog laid1 ((World.doorLaid Tryd.prog 14 os).forCall (fun _ _ => 0) ⟨#[], args, []⟩).memory :=
  laidMetH_of_parts3 (fuel := 8) (laidMet_of_run' 8 (by kernel_rfl) (by kernel_rfl)) (by kernel_rfl) (by kernel_rfl)
theorem laid_cells : ∀ k, k < 16 → ∀ x : DataW Unit, ([.lit (.int .u32 0), .lit (.int .u32 498536548), .lit (.int .u32 997073096), .lit (.int .u32 651767980), .lit (.int .u32 1994146192), .lit (.int .u32 1802195444), .lit (.int .u32 1303535960), .lit (.int .u32 1342533948), .lit (.int .u32 3988292384), .lit (.int .u32 4027552580), .lit (.int .u32 3604390888), .lit (.int .u32 3412177804), .lit (.int .u32 2607071920), .lit (.int .u32 2262029012), .lit (.int .u32 2685067896), .lit (.int .u32 3183342108)] : List (DataW Unit))[k]? = some x → x = .lit (.int .u32 ((crcT.getD k 0).toNat : Int)) := by
  intro k hk x hx
  match k, hk, hx with
  | 0, _, hx | 1, _, hx | 2, _, hx | 3, _, hx | 4, _, hx | 5, _, hx | 6, _, hx | 7, _, hx | 8, _, hx | 9, _, hx | 10, _, hx | 11, _, hx | 12, _, hx | 13, _, hx | 14, _, hx | 15, _, hx => simp at hx; subst hx; rfl
/-- What the condition gives the walks. -/
theorem tab_of_laid {W : World} (h : laidMetH Tryd.prog laid1 W) : Tab W := by
  rw [MakeChecks.laidMetH_plain _ _ _ (by kernel_rfl)] at h
  obtain ⟨ps, ⟨g0, t0, cs0, f0, p0, q0, hg0, ht0, hv0, hd0, _⟩, _, _⟩ := h
  obtain rfl := Option.some.inj (gHalves.symm.trans hg0)
  obtain rfl := Option.some.inj (tHalves.symm.trans ht0)
  obtain ⟨xs, m, _, hx1, hlen, hn, hel⟩ := DataW.trod_array Tryd.underlying34 hd0
  simp only [Prod.mk.injEq] at hx1
  have hx2 := hx1.1
  simp only [Rows.laid_kiosk_crc_halves, DataW.agg.injEq] at hx2
  have c1 : Tryd.prog.cellsOf 23 = 1 := by kernel_rfl
  have key : ∀ k, k < 16 → cs0[k]? = some (U (crcT.getD k 0)) := by
    intro k hk
    have he := hel k hk
    rw [c1, Nat.mul_one] at he
    have hkx : k < xs.length := by omega
    rw [List.getElem?_eq_getElem hkx] at he
    obtain ⟨z, e1, e2, _⟩ := DataW.trod_int Tryd.underlying23 he
    have hm : (xs.map (·.1))[k]? = some xs[k].1 := by rw [List.getElem?_map, List.getElem?_eq_getElem hkx]; rfl
    rw [← hx2] at hm
    have h4 := laid_cells k hk _ hm
    rw [e2] at h4
    simp only [DataW.lit.injEq, Lit.int.injEq, true_and] at h4
    subst h4
    have h5 : (cs0.toList.drop k)[0]? = some (Value.int .u32 ((crcT.getD k 0).toNat : Int)) := by
      have : ((cs0.toList.drop k).take 1)[0]? = some (Value.int .u32 ((crcT.getD k 0).toNat : Int)) := by rw [e1]; rfl
      rw [List.getElem?_take] at this
      simpa using this
    rw [List.getElem?_drop, Nat.add_zero] at h5
    simpa using h5
  have hc := fun k => World.var?_cell hg0 hv0 k
  refine ⟨?_, fun k hk => (hc k).trans (key k hk)⟩
  have h0 := (hc 0).trans (key 0 (by decide))
  rcases Nat.eq_zero_or_pos W.heap.size with h | h
  · have h1 : W.heap[0]? = none := Array.getElem?_eq_none (by omega)
    simp [World.cell?, h1] at h0
  · exact h
end Go.Proofs.YtkljlgmidmlmlaaDoor
