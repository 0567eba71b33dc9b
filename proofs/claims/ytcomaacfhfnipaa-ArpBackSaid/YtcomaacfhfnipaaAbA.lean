/-
  What ARP says, as bytes: arp.Bytes.
-/
import Derived.Test.YtcomaacfhfnipaaArpC
import Derived.Test.YtcomaacfhfnipaaNbI
namespace Go.Proofs.Ytcomaacfhfnipaa
open Go.RowKit
structure Ar where
  rep : Bool
  sm : Int
  si : Int
  dm : Int
  di : Int
def arOk (a : Ar) : Bool := macB a.sm && macB a.dm && ipB a.si && ipB a.di
def arHead (k : Int) : List UInt8 := ((bigv 1 2 ++ bigv 2048 2) ++ [6, 4]) ++ bigv k 2
def arKind (b : Bool) : Int := if b then 2 else 1
def arBytes (a : Ar) : List UInt8 := (((arHead (arKind a.rep) ++ bigv a.sm 6) ++ bigv a.si 4) ++ bigv a.dm 6) ++ bigv a.di 4
abbrev Ar.row (a : Ar) : List Value := [.bool a.rep, .int .i64 a.sm, .int .i64 a.si, .int .i64 a.dm, .int .i64 a.di]
structure ArAt (W : World) (b : Nat) (a : Ar) : Prop where
  c0 : W.cell? ⟨b, 0, none⟩ = some (.bool a.rep)
  c1 : W.cell? ⟨b, 1, none⟩ = some (.int .i64 a.sm)
  c2 : W.cell? ⟨b, 2, none⟩ = some (.int .i64 a.si)
  c3 : W.cell? ⟨b, 3, none⟩ = some (.int .i64 a.dm)
  c4 : W.cell? ⟨b, 4, none⟩ = some (.int .i64 a.di)
  lt : b < W.heap.size
theorem ArAt.below {W W' : World} {b : Nat} {a : Ar} (h : ArAt W b a) (hb : Below W.heap.size W W') : ArAt W' b a :=
  ⟨(hb.cell (p := ⟨b, 0, none⟩) h.lt).trans h.c0, (hb.cell (p := ⟨b, 1, none⟩) h.lt).trans h.c1, (hb.cell (p := ⟨b, 2, none⟩) h.lt).trans h.c2, (hb.cell (p := ⟨b, 3, none⟩) h.lt).trans h.c3, (hb.cell (p := ⟨b, 4, none⟩) h.lt).trans h.c4, Nat.lt_of_lt_of_le h.lt hb.size⟩
theorem arHead_len (k : Int) : (arHead k).length = 8 := by simp [arHead, bigv_length]
theorem arBytes_len (a : Ar) : (arBytes a).length = 28 := by simp [arBytes, arHead_len, bigv_length]
theorem own_lt2 {w : World} {base e size n k : Nat} {v : Value} {xs : List Value} (h : w.ownsRow base e size v n xs) (hk : v.ownBlock = some k) : base ≤ k := (h.lt k hk).1
set_option maxRecDepth 100000 in
set_option maxHeartbeats 2000000 in
theorem head_any (k : Int) (w : World) :
    Calls Try.prog 42 #[.int .i64 k] w fun e w' => ∃ v', e = .returned v' ∧ Below w.heap.size w w' ∧ w'.ownsRow w.heap.size 5 1 v' 8 ((arHead k).map B8) := by
  obtain ⟨i0, hi, hz0, hz1, hz2⟩ := info_parts infoU8
  have hmk : ∀ w, (Instr.makeSlice 34 (.int .i64 0) (.int .i64 28)).run Try.prog w = .ok (.slice (some ⟨w.heap.size, 0, none⟩) 0 28) (w.alloc (.cells (Array.replicate 28 (.int .u8 0)) 5)) := fun _ => by kernel_rfl
  have ho0 : (w.alloc (.cells (Array.replicate 28 (.int .u8 0)) 5)).ownsRow w.heap.size 5 1 (.slice (some ⟨w.heap.size, 0, none⟩) 0 28) 0 (([] : List UInt8).map B8) := World.ownsRow_made w _ 28 (Nat.le_refl _) (by unfold maxLen; omega) (by simp)
  have hb0 : Below w.heap.size w (w.alloc (.cells (Array.replicate 28 (.int .u8 0)) 5)) := (Below.refl _ w).alloc (Nat.le_refl _) _
  have C1 := Lib.hid (numApp_k w.heap.size 0 _ [] 2 2 1 _ rfl ho0 (by omega) (by omega) hb0.size)
  have HB0 := Lib.hid hb0
  have HO0 := Lib.hid ho0
  clear ho0 hb0
  go_enter Try.func42, Try.ntmps42
  go_wp2_with fail
  (with_reducible refine C1.out.mono ?_)
  rintro e w1 ⟨v1, rfl, hg1, ho1⟩
  have HB1 := Lib.hid (HB0.out.trans (grew_below hg1 HB0.out.size (fun k hk => own_lt2 HO0.out hk)))
  have C2 := Lib.hid (numApp_k w.heap.size _ _ _ 2 2 2048 _ rfl ho1 (by omega) (by omega) HB1.out.size)
  have HO1 := Lib.hid ho1
  clear hg1 ho1 C1
  go_wp2_with fail
  (with_reducible refine C2.out.mono ?_)
  rintro e w2 ⟨v2, rfl, hg2, ho2⟩
  have HB2 := Lib.hid (HB1.out.trans (grew_below hg2 HB1.out.size (fun k hk => own_lt2 HO1.out hk)))
  have HO2 := Lib.hid ho2
  clear hg2 C2
  have hz := HB2.out.size
  have HS := Lib.hid (show Sl (w2.alloc (.cells #[.int .u8 6, .int .u8 4] 5)) (.slice (some ⟨w2.heap.size, 0, none⟩) 2 2) [6, 4] from Sl.lit w2 [6, 4] 5 (by decide))
  go_wp2_with (at_builtin; refine appendAll rfl _ _ 34 5 rfl w.heap.size i0 Try.underlying34 hi hz0 hz1 hz2 _ _ _ [6, 4] rfl (World.ownsRow.alloc ho2 _) _ rfl HS.out (by omega) (by decide) (by simp; omega) ?_; intro v3 w3 ho3 hg3)
  replace hg3 : Grew (w2.alloc (.cells #[.int .u8 6, .int .u8 4] 5)) w3 v2 v3 := hg3
  have HB3 := Lib.hid ((HB2.out.alloc hz _).trans (grew_below hg3 (by simp; omega) (fun k hk => own_lt2 HO2.out hk)))
  have C4 := Lib.hid (numApp_k w.heap.size _ _ _ 2 2 k _ rfl ho3 (by omega) (by simp) HB3.out.size)
  have HO3 := Lib.hid ho3
  clear hg3 ho3 ho2 hz HS
  go_wp2_with fail
  (with_reducible refine C4.out.mono ?_)
  rintro e w4 ⟨v4, rfl, hg4, ho4⟩
  have HB4 := Lib.hid (HB3.out.trans (grew_below hg4 HB3.out.size (fun k hk => own_lt2 HO3.out hk)))
  have HO4 := Lib.hid ho4
  clear hg4 ho4 C4
  go_wp2
  go_ret
  exact ⟨_, rfl, HB4.out, HO4.out⟩
end Go.Proofs.Ytcomaacfhfnipaa
