/-
  The bytes of IpErrors: the packet's bytes, each of them spoilt or turned, what they read as; kiosklaw10.mended.put.
-/
import Derived.Test.YtgaimpopcehabaaIpO
import Derived.Test.YtgaimpopcehabaaIpE
namespace Go.Proofs.Ytgaimpopcehabaa
open Go.RowKit
def putZ (l : List UInt8) (a : Nat) (x : UInt8) : List UInt8 := ((l.set a x).set 10 0).set 11 0
def putC (l : List UInt8) (a : Nat) (x : UInt8) : Int := 65535 - sumv 0 ((putZ l a x).take 20)
/-- What kiosklaw10.mended.put answers. -/
def putL (l : List UInt8) (a : Nat) (x : UInt8) : List UInt8 := ((putZ l a x).set 10 (byteAt (putC l a x) 1)).set 11 (byteAt (putC l a x) 0)
theorem putZ_len (l : List UInt8) (a : Nat) (x : UInt8) : (putZ l a x).length = l.length := by simp [putZ]
theorem putL_len (l : List UInt8) (a : Nat) (x : UInt8) : (putL l a x).length = l.length := by simp [putL, putZ]
theorem putC_bd (l : List UInt8) (a : Nat) (x : UInt8) : 0 ≤ putC l a x ∧ putC l a x ≤ 65535 := by have := foldv_bd (0 + pairs ((putZ l a x).take 20)); unfold putC sumv; omega
def pk9 : Pk := ⟨1, 2, 6, 9, 0, [1, 2, 3, 4]⟩
theorem pk9_ok : pkOk pk9 := by simp [pkOk, pk9]
def b9 : List UInt8 := pkBytes pk9
theorem b9_len : b9.length = 24 := rfl
def wantv (k : Nat) : Int := [7, 1, 1, 7, 1, 7, 8, 9, 9, 0, 0].getD k 0
/-- What the k-th case makes of the bytes. -/
def erx (k : Nat) : List UInt8 := [b9.take 19, b9.set 0 101, b9.set 0 68, b9.set 0 79, b9.set 3 19, b9.set 3 25, b9.set 9 7, putL b9 6 32, putL b9 7 1, putL b9 6 128, putL b9 1 252].getD k []
theorem erx_E : ∀ k : Fin 11, pkE (erx k.val) = wantv k.val := by decide +kernel
theorem erx_len : ∀ k : Fin 11, (erx k.val).length ≤ 24 := by decide +kernel
set_option maxRecDepth 100000 in
set_option maxHeartbeats 4000000 in
theorem put_any (v : Value) (l : List UInt8) (a : Nat) (x : UInt8) (w : World) (h20 : 20 ≤ l.length) (hl : l.length ≤ 1000) (ha : a < 10) (hv : Sl w v l) :
    Calls Try.prog 35 #[v, .int .i64 a, .int .u8 (x.toNat : Int)] w fun e w' => ∃ v', e = .returned v' ∧ Below w.heap.size w w' ∧ w'.ownsRow w.heap.size 5 1 v' (putL l a x).length ((putL l a x).map B8) := by
  have HV := Lib.hid hv
  obtain ⟨ao, cap, rfl, -⟩ := id hv
  clear hv
  go_enter Try.func35, Try.ntmps35
  go_wp2_with fail
  refine (copyBytes_any _ l w (by omega) HV.out).mono ?_
  rintro e w1 ⟨v1, rfl, hb1, ho1⟩
  obtain ⟨g, cap1, rfl, hgW, hgc, hgm, hgw⟩ := own_at2 ho1 (by omega)
  have HO1 := Lib.hid ho1; have HB1 := Lib.hid hb1
  have i0 : (0 : Int) ≤ (a : Int) := by omega
  have i1 : (a : Int) < (l.length : Int) := by omega
  have i10 : (10 : Int) < (l.length : Int) := by omega
  have i11 : (11 : Int) < (l.length : Int) := by omega
  have fa := HO1.out.frozenAt a
  have f10 := HO1.out.frozenAt 10
  have f11 := HO1.out.frozenAt 11
  obtain ⟨ua, za⟩ := own_ex HO1.out a (by omega)
  obtain ⟨u10, z10⟩ := own_ex HO1.out 10 (by omega)
  obtain ⟨u11, z11⟩ := own_ex HO1.out 11 (by omega)
  have na : (a = 10) = False := by simp; omega
  have nb : (a = 11) = False := by simp; omega
  have nc : (10 = a) = False := by simp; omega
  have nd : (11 = a) = False := by simp; omega
  clear hb1 ho1
  go_wp2_with fail
  have HO2 := own_set (own_set (own_set HO1.out a x) 10 0) 11 0
  refine calls_gen (fun X => X.ownsRow w.heap.size 5 1 (.slice (some ⟨g, 0, none⟩) l.length cap1) l.length ((putZ l a x).map B8) ∧ Below w.heap.size w X) ⟨HO2, ((HB1.out.setCell (by exact hgW) _).setCell (by exact hgW) _).setCell (by exact hgW) _⟩ ?_
  rintro X ⟨hoX, hbX⟩
  have HOX := Lib.hid hoX; have HBX := Lib.hid hbX
  have hS : Sl X (.slice (some ⟨g, 0, none⟩) 20 cap1) ((putZ l a x).take 20) := by
    have h := (Sl.of_own hoX).1
    rw [← putZ_len l a x] at h
    exact h.prefix 20 (by rw [putZ_len]; omega)
  have K := Lib.hid (rcheck_any _ ((putZ l a x).take 20) X (by rw [List.length_take]; omega) hS)
  rw [show 65535 - sumv 0 ((putZ l a x).take 20) = putC l a x from rfl] at K
  have hcb := putC_bd l a x
  have HCH := Lib.hid (byte_hi (putC l a x) hcb.1 hcb.2)
  have HCL := Lib.hid (byte_lo (putC l a x))
  have HPB := Lib.hid (show putL l a x = ((putZ l a x).set 10 (byteAt (putC l a x) 1)).set 11 (byteAt (putC l a x) 0) from rfl)
  generalize putC l a x = c at K hcb HCH HCL HPB
  obtain ⟨hcb0, hcb1⟩ := hcb
  clear HO2 hoX hbX hS fa f10 f11 za z10 z11 HO1 HB1
  refine K.out.mono ?_
  rintro e X' ⟨rfl, rfl⟩
  have f10 := HOX.out.frozenAt 10
  have f11 := HOX.out.frozenAt 11
  obtain ⟨v10, z10⟩ := own_ex HOX.out 10 (by omega)
  obtain ⟨v11, z11⟩ := own_ex HOX.out 11 (by omega)
  clear K
  go_wp2
  rw [← HCH.out, ← HCL.out]
  have HO3 := own_set (own_set HOX.out 10 (byteAt c 1)) 11 (byteAt c 0)
  have HB3 := (HBX.out.setCell (p := ⟨g, 10, none⟩) (by exact hgW) (.int .u8 ((byteAt c 1).toNat : Int))).setCell (p := ⟨g, 11, none⟩) (by exact hgW) (.int .u8 ((byteAt c 0).toNat : Int))
  rw [← HPB.out] at HO3
  go_ret
  exact ⟨_, rfl, HB3, by rw [putL_len]; exact HO3⟩
end Go.Proofs.Ytgaimpopcehabaa
