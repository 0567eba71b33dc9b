/-
  The law KeptFull: There is room for so many messages that are kept: a topic more is refused, one that is there is said anew, one that is taken away makes room: whatever script is handed in, the law answers true.
-/
import Derived.Test.YtoibdhncfdjdoaaDoorTie
import Derived.Test.YtoibdhncfdjdoaaDoorCards
import Derived.SevenTiedAt
import Derived.ProofKit
import Derived.LaidMore
import Derived.OpenShut
import Derived.Stop.Joined
import Derived.Lay
import Derived.MakeChecks
import Derived.LaidOnce
/-
  What was said last: KeptFull: the walk.
-/
import Derived.Test.YtoibdhncfdjdoaaDoorKeH
import Derived.Lib.SlBytesRow
namespace Go.Proofs.YtoibdhncfdjdoaaDoor
open Go.RowKit Go.Lib
/-- The order of texts, reckoned on their bytes. -/
def slD (a b : ByteArray) : Bool := bl a.data.toList b.data.toList
theorem sl_eq : sl = slD := by
  funext a b
  unfold sl slD
  rw [Lib.toList_data, Lib.toList_data]
def noneD (x : EMessage) : Bool := x.p.data.toList == []
theorem none_eq : noneB = noneD := by
  funext x
  unfold noneB noneD
  rw [Lib.toList_data, Lib.toList_data]
section
variable (s : ByteArray → ByteArray → Bool) (n : EMessage → Bool)
def okS (L : List EMessage) (k : Nat) : Bool :=
  match L[k]? with
  | none => true
  | some x => msgB x && !n x && (match k with | 0 => true | j + 1 => match L[j]? with | some p => s p.t x.t | none => true)
def keptS (L : List EMessage) : Bool := decide (L.length ≤ 16) && (List.range L.length).all (okS s n L)
def placeS (L : List EMessage) (t : ByteArray) : Nat := (L.takeWhile (fun q => s q.t t)).length
def thS (L : List EMessage) (t : ByteArray) : Bool := thereB L t (placeS s L t)
def outS (L : List EMessage) (t : ByteArray) : List EMessage := if thS s L t = true then L.eraseIdx (placeS s L t) else L
def putLS (L : List EMessage) (x : EMessage) : List EMessage := if n x = true then outS s L x.t else (outS s L x.t).take (placeS s L x.t) ++ x :: (outS s L x.t).drop (placeS s L x.t)
def putS (L : List EMessage) (x : EMessage) : List EMessage × Int :=
  if (keptS s n L && msgB x) = true then (if (!n x && !thS s L x.t && decide (L.length = 16)) = true then ([], 5) else (putLS s n L x, 0)) else ([], 1)
end
theorem put_eval (L : List EMessage) (x : EMessage) : putR L x = putS slD noneD L x := by
  rw [show putR L x = putS sl noneB L x from rfl, sl_eq, none_eq]
theorem match_eval (L : List EMessage) (f : ByteArray) : matchR L f = if (keptS slD noneD L && filtB f.data.toList) = true then (L.filter (hitB f), 0) else ([], 1) := by
  rw [show matchR L f = if (keptS sl noneB L && filtB f.data.toList) = true then (L.filter (hitB f), 0) else ([], 1) from rfl, sl_eq, none_eq]
def nm (k : Nat) : ByteArray := ⟨#[UInt8.ofNat (97 + k)]⟩
def msgAt (k : Nat) : EMessage := ⟨nm k, ⟨#[49]⟩, 0, true⟩
def MM (k : Nat) : List EMessage := (List.range k).map msgAt
theorem MM_len (k : Nat) : (MM k).length = k := by unfold MM; rw [List.length_map, List.length_range]
theorem full_step (k : Nat) (h : k < 16) : putR (MM k) (msgAt k) = (MM (k + 1), 0) := by
  rw [put_eval]
  exact (match k, h with
    | 0, _ => (by kernel_rfl)
    | 1, _ => (by kernel_rfl)
    | 2, _ => (by kernel_rfl)
    | 3, _ => (by kernel_rfl)
    | 4, _ => (by kernel_rfl)
    | 5, _ => (by kernel_rfl)
    | 6, _ => (by kernel_rfl)
    | 7, _ => (by kernel_rfl)
    | 8, _ => (by kernel_rfl)
    | 9, _ => (by kernel_rfl)
    | 10, _ => (by kernel_rfl)
    | 11, _ => (by kernel_rfl)
    | 12, _ => (by kernel_rfl)
    | 13, _ => (by kernel_rfl)
    | 14, _ => (by kernel_rfl)
    | 15, _ => (by kernel_rfl)
    | k + 16, h => absurd h (by omega))
theorem full_16 : putS slD noneD (MM 16) (msgAt 16) = ([], 5) := by kernel_rfl
theorem full_17 : putS slD noneD (MM 16) (msgAt 17) = ([], 5) := by kernel_rfl
theorem full_over (k : Nat) (h : ¬ k < 16) (h2 : k < 18) : putR (MM 16) (msgAt k) = ([], 5) := by
  rw [put_eval]
  have : k = 16 ∨ k = 17 := by omega
  rcases this with rfl | rfl
  · exact full_16
  · exact full_17
def xa : EMessage := ⟨⟨#[99]⟩, ⟨#[50]⟩, 0, true⟩
def xb : EMessage := ⟨⟨#[100]⟩, ⟨#[]⟩, 0, true⟩
def xd : EMessage := ⟨⟨#[122, 122]⟩, ⟨#[51]⟩, 0, true⟩
def xc : EMessage := ⟨⟨#[99]⟩, ⟨#[52]⟩, 0, false⟩
def xs : EMessage := ⟨⟨#[110, 111, 110, 101]⟩, ⟨#[]⟩, 0, true⟩
def LA : List EMessage := (MM 16).set 2 xa
def LB : List EMessage := LA.eraseIdx 3
def LD : List EMessage := LB ++ [xd]
theorem f_xa : putR (MM 16) xa = (LA, 0) := by rw [put_eval]; kernel_rfl
theorem f_xb : putR LA xb = (LB, 0) := by rw [put_eval]; kernel_rfl
theorem f_xd : putR LB xd = (LD, 0) := by rw [put_eval]; kernel_rfl
theorem f_xc : putR LD xc = ([], 1) := by rw [put_eval]; kernel_rfl
theorem f_xs : putR LD xs = (LD, 0) := by rw [put_eval]; kernel_rfl
theorem sizes_of {L : List EMessage} (h : (L.all fun y => decide (y.t.size < 1000000)) = true) : ∀ y ∈ L, y.t.size < 1000000 := fun y hy => of_decide_eq_true (List.all_eq_true.1 h y hy)
def wm1 : EMessage := ⟨⟨#[97]⟩, ⟨#[49]⟩, 0, true⟩
def wm2 : EMessage := ⟨⟨#[97]⟩, ⟨#[50]⟩, 0, true⟩
theorem f_wm1 : putR [] wm1 = ([wm1], 0) := by rw [put_eval]; kernel_rfl
theorem f_wm2 : putR [wm1] wm2 = ([wm2], 0) := by rw [put_eval]; kernel_rfl
theorem f_wm3 : matchR [wm2] ⟨#[35]⟩ = ([wm2], 0) := by rw [match_eval]; kernel_rfl
set_option maxRecDepth 100000 in
set_option maxHeartbeats 1000000 in
theorem wakes22_any (w : World) (hE : Env w) :
    Calls Tryd.prog 39 #[] w fun e w' => e = .returned (.bool true) ∧ Below w.heap.size w w' := by
  have HE := Lib.hid hE
  clear hE
  have C1 := Lib.hid (show Calls Tryd.prog 38 #[.slice none 0 0, .agg #[.string ⟨#[97]⟩, .string ⟨#[49]⟩, .int .i64 0, .bool true]] w fun e w' => ∃ v', e = .returned (.tuple #[v', .int .i64 0]) ∧ MsOwn w' w.heap.size v' [wm1] ∧ Below w.heap.size w w' from by
    have := put_any (.slice none 0 0) [] wm1 w HE.out (SlR.nil w 4 : SlR w 4 _ (([] : List EMessage).map rowMessage)).toMs (by simp) (by decide) (by decide)
    rw [f_wm1] at this
    exact this)
  have C2 := Lib.hid (fun W v1 (hb : Below w.heap.size w W) (h1 : SlOf W 4 EMessage.At v1 [wm1]) => (show Calls Tryd.prog 38 #[v1, .agg #[.string ⟨#[97]⟩, .string ⟨#[50]⟩, .int .i64 0, .bool true]] W fun e w' => ∃ v', e = .returned (.tuple #[v', .int .i64 0]) ∧ MsOwn w' W.heap.size v' [wm2] ∧ Below W.heap.size W w' from by
    have := put_any v1 [wm1] wm2 W (HE.out.below hb) h1 (sizes_of (by kernel_rfl)) (by decide) (by decide)
    rw [f_wm2] at this
    exact this))
  have C3 := Lib.hid (fun W v1 (hb : Below w.heap.size w W) (h1 : SlOf W 4 EMessage.At v1 [wm2]) => (show Calls Tryd.prog 33 #[v1, .string ⟨#[35]⟩] W fun e w' => ∃ v', e = .returned (.tuple #[v', .int .i64 0]) ∧ MsOwn w' W.heap.size v' [wm2] ∧ Below W.heap.size W w' from by
    have := match_kept v1 [wm2] ⟨#[35]⟩ W (HE.out.below hb) h1 (sizes_of (by kernel_rfl)) (by decide) (by decide)
    rw [f_wm3] at this
    exact this))
  have CN := Lib.hid (fun W => num22_any 0 W (by omega) (by omega))
  go_enter Tryd.func39, Tryd.ntmps39
  go_wp2_with fail
  (with_reducible refine C1.out.mono ?_)
  rintro e W1 ⟨v1, rfl, ho1, hb1⟩
  have HB1 := Lib.hid hb1
  have HO1 := Lib.hid ho1.of
  clear hb1 ho1 C1
  go_wp2_with fail
  (with_reducible refine (C2.out W1 v1 HB1.out HO1.out).mono ?_)
  rintro e W2 ⟨v2, rfl, ho2, hb2⟩
  have HB2 := Lib.hid (HB1.out.trans (hb2.mono HB1.out.size))
  have HO2 := Lib.hid ho2.of
  clear hb2 ho2 C2 HO1 HB1
  go_wp2_with fail
  (with_reducible refine (C3.out W2 v2 HB2.out HO2.out).mono ?_)
  rintro e W3 ⟨v3, rfl, ho3, hb3⟩
  have HB3 := Lib.hid (HB2.out.trans (hb3.mono HB2.out.size))
  obtain ⟨ao3, cap3, rfl, -, -, -, hB3⟩ := ho3.of
  obtain ⟨b3, off3, rfl, -, hBB3⟩ := hB3 (by simp)
  obtain ⟨-, c1, -, -⟩ := hBB3 0 wm2 rfl
  have d1 : W3.cell? ⟨b3, off3 + 1, none⟩ = some (.string ⟨#[50]⟩) := by have h := c1; rw [show off3 + 0 * 4 + 1 = off3 + 1 by omega] at h; exact h
  have hl1 : ([wm2] : List EMessage).length = 1 := rfl
  clear hb3 ho3 C3 HB2 HO2 hB3 hBB3 c1
  go_wp2_with ((with_reducible refine (CN.out _).mono ?_); rintro e w' ⟨rfl, rfl⟩)
  go_ret
  exact ⟨by first | rfl | simp, HB3.out⟩
set_option maxRecDepth 100000 in
set_option maxHeartbeats 8000000 in
theorem keptFull_any (aS aA : Option Addr) (n cA nS cS : Nat) (w : World) (hE : Env w) :
    Calls Tryd.prog 8 #[.agg #[.slice aS nS cS, .slice aA n cA]] w fun e w' => e = .returned (.bool true) ∧ Below w.heap.size w w' := by
  have HE := Lib.hid hE
  clear hE
  have CK := Lib.hid (fun k (hk : k < 16) W v (hb : Below w.heap.size w W) (ho : SlOf W 4 EMessage.At v (MM k)) => (show Calls Tryd.prog 38 #[v, .agg #[.string (nm k), .string ⟨#[49]⟩, .int .i64 0, .bool true]] W fun e w' => ∃ v', e = .returned (.tuple #[v', .int .i64 0]) ∧ MsOwn w' W.heap.size v' (MM (k + 1)) ∧ Below W.heap.size W w' from by
    have := put_any v (MM k) (msgAt k) W (HE.out.below hb) ho (by intro y hy; unfold MM at hy; obtain ⟨j, -, rfl⟩ := List.mem_map.1 hy; show 1 < 1000000; decide) (by show 1 < 1000000; decide) (by rw [MM_len]; omega)
    rw [full_step k hk] at this
    exact this))
  have CO := Lib.hid (fun k (hk : ¬ k < 16) (hk2 : k < 18) W v (hb : Below w.heap.size w W) (ho : SlOf W 4 EMessage.At v (MM 16)) => (show Calls Tryd.prog 38 #[v, .agg #[.string (nm k), .string ⟨#[49]⟩, .int .i64 0, .bool true]] W fun e w' => ∃ v', e = .returned (.tuple #[v', .int .i64 5]) ∧ MsOwn w' W.heap.size v' [] ∧ Below W.heap.size W w' from by
    have := put_any v (MM 16) (msgAt k) W (HE.out.below hb) ho (by intro y hy; unfold MM at hy; obtain ⟨j, -, rfl⟩ := List.mem_map.1 hy; show 1 < 1000000; decide) (by show 1 < 1000000; decide) (by rw [MM_len]; omega)
    rw [full_over k hk hk2] at this
    exact this))
  have CA := Lib.hid (fun W v (hb : Below w.heap.size w W) (ho : SlOf W 4 EMessage.At v (MM 16)) => (show Calls Tryd.prog 38 #[v, .agg #[.string ⟨#[99]⟩, .string ⟨#[50]⟩, .int .i64 0, .bool true]] W fun e w' => ∃ v', e = .returned (.tuple #[v', .int .i64 0]) ∧ MsOwn w' W.heap.size v' LA ∧ Below W.heap.size W w' from by
    have := put_any v (MM 16) xa W (HE.out.below hb) ho (sizes_of (by kernel_rfl)) (by decide) (by decide)
    rw [f_xa] at this
    exact this))
  have CB := Lib.hid (fun W v (hb : Below w.heap.size w W) (ho : SlOf W 4 EMessage.At v LA) => (show Calls Tryd.prog 38 #[v, .agg #[.string ⟨#[100]⟩, .string ⟨#[]⟩, .int .i64 0, .bool true]] W fun e w' => ∃ v', e = .returned (.tuple #[v', .int .i64 0]) ∧ MsOwn w' W.heap.size v' LB ∧ Below W.heap.size W w' from by
    have := put_any v LA xb W (HE.out.below hb) ho (sizes_of (by kernel_rfl)) (by decide) (by decide)
    rw [f_xb] at this
    exact this))
  have CD := Lib.hid (fun W v (hb : Below w.heap.size w W) (ho : SlOf W 4 EMessage.At v LB) => (show Calls Tryd.prog 38 #[v, .agg #[.string ⟨#[122, 122]⟩, .string ⟨#[51]⟩, .int .i64 0, .bool true]] W fun e w' => ∃ v', e = .returned (.tuple #[v', .int .i64 0]) ∧ MsOwn w' W.heap.size v' LD ∧ Below W.heap.size W w' from by
    have := put_any v LB xd W (HE.out.below hb) ho (sizes_of (by kernel_rfl)) (by decide) (by decide)
    rw [f_xd] at this
    exact this))
  have CC := Lib.hid (fun W v (hb : Below w.heap.size w W) (ho : SlOf W 4 EMessage.At v LD) => (show Calls Tryd.prog 38 #[v, .agg #[.string ⟨#[99]⟩, .string ⟨#[52]⟩, .int .i64 0, .bool false]] W fun e w' => ∃ v', e = .returned (.tuple #[v', .int .i64 1]) ∧ MsOwn w' W.heap.size v' [] ∧ Below W.heap.size W w' from by
    have := put_any v LD xc W (HE.out.below hb) ho (sizes_of (by kernel_rfl)) (by decide) (by decide)
    rw [f_xc] at this
    exact this))
  have CS := Lib.hid (fun W v (hb : Below w.heap.size w W) (ho : SlOf W 4 EMessage.At v LD) => (show Calls Tryd.prog 38 #[v, .agg #[.string ⟨#[110, 111, 110, 101]⟩, .string ⟨#[]⟩, .int .i64 0, .bool true]] W fun e w' => ∃ v', e = .returned (.tuple #[v', .int .i64 0]) ∧ MsOwn w' W.heap.size v' LD ∧ Below W.heap.size W w' from by
    have := put_any v LD xs W (HE.out.below hb) ho (sizes_of (by kernel_rfl)) (by decide) (by decide)
    rw [f_xs] at this
    exact this))

  have CN0 := Lib.hid (fun W => num22_any 0 W (by omega) (by omega))
  have CN1 := Lib.hid (fun W => num22_any 1 W (by omega) (by omega))
  have CN5 := Lib.hid (fun W => num22_any 5 W (by omega) (by omega))
  have hE0 : ∀ W0, W0 = w.alloc (.cells #[.slice aS nS cS, .slice aA n cA] 56) → Sc w W0 w.heap.size (.slice aS nS cS) (.slice aA n cA) := by
    rintro W0 rfl
    exact ⟨(Below.refl _ w).alloc (Nat.le_refl _) _, by simp [go_sem], by simp [go_sem], by simp⟩
  have HE0 := Lib.hid hE0
  clear hE0
  go_enter Tryd.func8, Tryd.ntmps8
  go_wp2
  go_loopw [3, 4] (fun vl vi wr => ∃ (k : Nat) (v : Value), k ≤ 18 ∧ vi = .int .i64 k ∧ v = vl ∧ Sc w wr w.heap.size (.slice aS nS cS) (.slice aA n cA) ∧ MsOwn wr w.heap.size v (MM (min k 16))) (fun _ i _ => 18 - (RowKit.intOf i).toNat)
  case atStart => exact ⟨0, _, by omega, rfl, rfl, HE0.out _ rfl, MsOwn.nil _ _⟩
  case round =>
    obtain ⟨k, v, hk, rfl, rfl, hsc, ho⟩ := hrel
    have HSc := Lib.hid hsc
    have HO := Lib.hid ho
    clear hsc ho
    by_cases hlt : k < 18
    · have hltz : (k : Int) < 18 := by omega
      have hw8 : IntKind.u8.wrap (97 + (k : Int)) = 97 + (k : Int) := by rw [IntKind.wrap_u8]; omega
      have hcv : ∀ W : World, (convert 52 9 (.slice (some ⟨W.heap.size, 0, none⟩) 1 1)).run Tryd.prog (W.alloc (.cells #[.int .u8 (97 + (k : Int))] 5)) = .ok (.string (nm k)) (W.alloc (.cells #[.int .u8 (97 + (k : Int))] 5)) := fun W =>
        Lib.run_convert_whole _ _ 5 _ Tryd.underlying52 Tryd.underlying5 Tryd.underlying9 _ 0 (nm k) (by
          intro i hi
          obtain rfl : i = 0 := by have : (nm k).size = 1 := rfl; omega
          have e1 : (((nm k)[0]'hi).toNat : Int) = 97 + (k : Int) := by
            show (((UInt8.ofNat (97 + k)).toNat : Nat) : Int) = _
            rw [UInt8.toNat_ofNat']
            omega
          rw [e1]
          simp [go_sem]) 1
      by_cases h16 : k < 16
      · have h16z : (k : Int) < 16 := by omega
        rw [Nat.min_eq_left (by omega)] at HO
        go_wp2_with fail
        refine calls_gen (fun W => Sc w W w.heap.size (.slice aS nS cS) (.slice aA n cA) ∧ MsOwn W w.heap.size v (MM k)) ⟨HSc.out.below ((Below.refl _ _).alloc (Nat.le_refl _) _), HO.out.below ((Below.refl _ _).alloc (Nat.le_refl _) _)⟩ ?_
        rintro W1 ⟨hsc1, ho1⟩
        (with_reducible refine (CK.out k h16 W1 v hsc1.low ho1.of).mono ?_)
        rintro e W2 ⟨v2, rfl, ho2, hb2⟩
        have HSc2 := Lib.hid (hsc1.below hb2)
        have ho3 : MsOwn W2 w.heap.size v2 (MM (k + 1)) := own_mono ho2 hsc1.low.size
        have HO3 := Lib.hid ho3
        have ho4 := ho3
        unfold MsOwn at ho4
        rw [MM_len] at ho4
        obtain ⟨ao, cap, rfl⟩ := own_slice ho4
        clear hsc1 ho1 ho2 hb2 ho3 ho4 hcv hw8 HSc HO
        go_wp2_with ((with_reducible refine (CN0.out _).mono ?_); rintro e w' ⟨rfl, rfl⟩)
        go_roundw
        case rel => exact ⟨k + 1, _, by omega, by go_num, rfl, HSc2.out, by rw [Nat.min_eq_left (by omega)]; exact HO3.out⟩
        case measure => simp [RowKit.intOf]; omega
      · have h16z : ¬ (k : Int) < 16 := by omega
        have h16y : (16 : Int) ≤ (k : Int) := by omega
        rw [Nat.min_eq_right (by omega)] at HO
        go_wp2_with fail
        refine calls_gen (fun W => Sc w W w.heap.size (.slice aS nS cS) (.slice aA n cA) ∧ MsOwn W w.heap.size v (MM 16)) ⟨HSc.out.below ((Below.refl _ _).alloc (Nat.le_refl _) _), HO.out.below ((Below.refl _ _).alloc (Nat.le_refl _) _)⟩ ?_
        rintro W1 ⟨hsc1, ho1⟩
        (with_reducible refine (CO.out k h16 hlt W1 v hsc1.low ho1.of).mono ?_)
        rintro e W2 ⟨v2, rfl, -, hb2⟩
        have HSc2 := Lib.hid (hsc1.below hb2)
        have HO3 := Lib.hid (ho1.below hb2)
        clear hsc1 ho1 hb2 hcv hw8 HSc HO
        go_wp2_with ((with_reducible refine (CN5.out _).mono ?_); rintro e w' ⟨rfl, rfl⟩)
        go_roundw
        case rel => exact ⟨k + 1, _, by omega, by go_num, rfl, HSc2.out, by rw [Nat.min_eq_right (by omega)]; exact HO3.out⟩
        case measure => simp [RowKit.intOf]; omega
    · have hltz : ¬ (k : Int) < 18 := by omega
      rw [Nat.min_eq_right (by omega)] at HO
      clear CK CO
      go_wp2_with fail
      (with_reducible refine (CA.out _ v HSc.out.low HO.out.of).mono ?_)
      rintro e W1 ⟨va, rfl, hoa, hb1⟩
      have HSc1 := Lib.hid (HSc.out.below hb1)
      have HOA := Lib.hid hoa.of
      clear hb1 HSc HO CA hoa
      go_wp2_with fail
      (with_reducible refine (CB.out _ va HSc1.out.low HOA.out).mono ?_)
      rintro e W2 ⟨vb, rfl, hob, hb2⟩
      have HSc2 := Lib.hid (HSc1.out.below hb2)
      have HOA2 := Lib.hid (HOA.out.msR.below hb2)
      have HOB := Lib.hid hob.of
      clear hb2 HSc1 HOA CB hob
      go_wp2_with fail
      (with_reducible refine (CD.out _ vb HSc2.out.low HOB.out).mono ?_)
      rintro e W3 ⟨vd, rfl, hod, hb3⟩
      have HSc3 := Lib.hid (HSc2.out.below hb3)
      have HOA3 := Lib.hid (HOA2.out.below hb3)
      obtain ⟨aob, capb, hvb, -⟩ := id HOB.out
      have HOD := Lib.hid hod.of
      clear hb3 HSc2 HOA2 CD hod HOB
      rw [show LB.length = 15 by kernel_rfl] at hvb
      subst hvb
      go_wp2_with fail
      (with_reducible refine (CC.out _ vd HSc3.out.low HOD.out).mono ?_)
      rintro e W4 ⟨vc, rfl, -, hb4⟩
      have HSc4 := Lib.hid (HSc3.out.below hb4)
      have HOA4 := Lib.hid (HOA3.out.below hb4)
      have HOD4 := Lib.hid (HOD.out.msR.below hb4)
      clear hb4 HSc3 HOA3 HOD CC
      go_wp2_with fail
      (with_reducible refine (CS.out _ vd HSc4.out.low HOD4.out.toMs).mono ?_)
      rintro e W5 ⟨vs, rfl, hos, hb5⟩
      have HSc5 := Lib.hid (HSc4.out.below hb5)
      have HOA5 := Lib.hid (HOA4.out.below hb5)
      have HOD5 := Lib.hid (HOD4.out.below hb5)
      have HOS := Lib.hid hos.slr
      clear hb5 HSc4 HOA4 HOD4 CS hos
      have CE := Lib.hid (eqMessages_any vs vd LD LD W5 (by decide) (by decide) HOS.out HOD5.out)
      rw [show decide (LD = LD) = true from decide_eq_true rfl] at CE
      obtain ⟨aod, capd, hvd, -⟩ := id HOD5.out
      rw [show (LD.map rowMessage).length = 16 by kernel_rfl] at hvd
      subst hvd
      obtain ⟨aoa, capa, hva, -, -, -, hBa⟩ := id HOA5.out.toMs
      rw [show LA.length = 16 by kernel_rfl] at hva
      subst hva
      obtain ⟨ba, offa, rfl, hba, hBBa⟩ := hBa (by intro h; have h2 : LA.length = 16 := (by kernel_rfl); rw [h] at h2; cases h2)
      obtain ⟨-, c1, -, -⟩ := hBBa 2 xa (by kernel_rfl)
      have d1 : W5.cell? ⟨ba, offa + 8 + 1, none⟩ = some (.string ⟨#[50]⟩) := c1
      have GW := Lib.hid (fun (m : Nat) => HSc5.out.below (bdrew (Below.refl W5.heap.size W5) m))
      have GD := Lib.hid (fun (m : Nat) => show (W5.drewN m).cell? ⟨ba, offa + 8 + 1, none⟩ = some (.string ⟨#[50]⟩) from d1)
      clear c1 hBBa hBa
      obtain ⟨-, p0, p1, plt⟩ := id HSc5.out
      go_wp2_with (with_reducible first | (refine (CN0.out _).mono ?_; rintro e w6 ⟨rfl, rfl⟩) | (refine (CN1.out _).mono ?_; rintro e w6 ⟨rfl, rfl⟩) | (refine CE.out.mono ?_; rintro e w6 ⟨rfl, m6, rfl⟩; have GD6 := GD.out m6; obtain ⟨HSL6, GP0, GP1, GPL⟩ := id (GW.out m6); have CWk := Lib.hid (wakes22_any _ (HE.out.below HSL6))) | (refine CWk.out.mono ?_; rintro e w9 ⟨rfl, hb9⟩))
      go_ret
      exact ⟨by first | rfl | simp, HSL6.trans (hb9.mono HSL6.size)⟩
theorem keptFull_walk (W : World) (hL : laidMetH Tryd.prog laid1 W) (hsh : W.ShapedOpen Tryd.prog) (cs : List Value) (h : RdZ Tryd.prog W 56 cs) :
    Calls Tryd.prog 8 #[.agg cs.toArray] W fun e W' => e = .returned (.bool true) ∧ Below W.heap.size W W' := by
      obtain ⟨vS, vL, S, A, rfl, hS, hA, -⟩ := script_of W cs h
      obtain ⟨aS, cS, rfl, -⟩ := hS
      obtain ⟨aA, cA, rfl, -⟩ := hA
      exact keptFull_any aS aA A.length cA S.length cS W ⟨tabs_of_laid hL, mx_of_shape hsh⟩
namespace keptFull
open Go.ChangeShapes Go.WideShapes Go.ChangeAt
theorem own : ownKnob Tryd.prog.godebug = none := by kernel_rfl
theorem laidOut : laidOutB Tryd.prog = true := by kernel_rfl
set_option maxRecDepth 100000 in
theorem lifted (os : Os) (started : os.Started) (H : Type) (enc : TypeId × Value → H) :
    ReturnsInHanded {} Tryd.checked os 8 .any (fun w args => (Rows.keptFullSpec.pre enc Tryd.prog Tryd.f8 [] false w args ∧ laidMetH Tryd.prog laid1 w) ∧ sizedMet enc Tryd.prog Tryd.f8 (OpenSpec.ofChange Rows.keptFullSpec) false w args)
      (Rows.keptFullSpec.post enc Tryd.prog Tryd.f8 false true false false) := by
  refine handed_shaped_sized (C := Tryd.checked) (X := fun w _ => laidMetH Tryd.prog laid1 w) (fun _ _ _ hh h => h.of_heap hh) own started (by kernel_rfl) Tryd.func8
    (ChangeSpec.witness_shaped (enc := enc) (C := Tryd.checked) (os := os) (X := fun w _ => laidMetH Tryd.prog laid1 w) false (World.laidAll Tryd.prog os laid1) #[.agg #[.slice none 0 0, .slice none 0 0]] 12 (World.laidAll_os _ _ _) (World.shaped_of_ZipB (by kernel_rfl) (by kernel_rfl)) (by kernel_rfl) (by kernel_rfl) (by kernel_rfl) (by rw [MakeChecks.laidMetH_plain _ _ _ (by kernel_rfl)]; exact laidMet_laidAll _ (by kernel_rfl) (by kernel_rfl))) ?_
  intro W base args ds gs before hval0 hW hsz0 hL hsh
  have hsz : (DataW.weightsEach Tryd.prog (Tryd.f8.params.toList ++ Rows.keptFullSpec.plain.varTypes Tryd.prog) (ds ++ gs)).all (· ≤ reachBytes) = true := hsz0
  clear hsz0
  have hval : ∀ (j : Nat) t v, Tryd.f8.params[j]? = some t → args[j]? = some v → Value.okWide Tryd.prog W .any base t v := hval0
  have hW' := hW
  obtain ⟨p, q, hA0, hV, rfl, hfz, hnd⟩ := hW
  have hA : DataW.TrodAll enc Tryd.prog W 0 (fun _ => true) true Tryd.f8.params.toList args.toList ds p := hA0
  rw [Tryd.params8] at hA hval
  obtain ⟨v0, vs0, d0, ds0, p0, q0, hargs, rfl, rfl, h0, r0⟩ := trodAll_cons hA
  obtain ⟨rfl, rfl, rfl⟩ := trodAll_nil r0
  obtain rfl : args = #[v0] := by cases args; simp_all
  obtain ⟨rfl, rfl⟩ := trodVars_none hV
  obtain ⟨cs0, rfl⟩ : ∃ cs0 : Array Value, v0 = .agg cs0 := by
    have h := hval 0 56 v0 rfl rfl
    unfold Value.okWide at h
    rw [Tryd.underlying56] at h
    exact ⟨h.choose, h.choose_spec.1⟩
  have k0 := h0
  have lt0 : ∀ x ∈ p0, x.block < W.heap.size := by obtain ⟨m, hm⟩ := k0; exact DataW.trod_lt m _ _ _ hm
  have hrd : RdZ Tryd.prog W 56 cs0.toList := by obtain ⟨fuel, hf⟩ := h0; exact ⟨H, enc, 0, _, true, fuel, _, hf, by simp only [List.all_eq_true]; intro n hn; exact List.all_eq_true.1 hsz n (DataW.weights_mem_each (j := 0) rfl rfl n hn)⟩
  clear hA0 hval0
  refine (show Calls Tryd.prog 8 _ W (fun e W' => e = .returned (.bool true) ∧ Below W.heap.size W W') from by have := keptFull_walk W hL hsh _ hrd; rwa [Array.toArray_toList] at this).mono fun e W' ⟨he, bel⟩ => ?_
  subst he
  exact ⟨_, rfl, _, _, _, [], _, [], hW', trodAll_mk1 (shut_bool Tryd.underlying4 _), (trodAll_cons_mk (Below.trod laidOut (by kernel_rfl) (of_decide_eq_true (by kernel_rfl)) k0 bel lt0) trodAll_mk0), rfl, bel.frame _, fun h => by cases h⟩
theorem over : Rows.keptFullRow.holds Tryd.pinned (OpenSpec.ofChange Rows.keptFullSpec) :=
  OpenClaim.holds_of_wide 8 Tryd.f8 rfl rfl rfl rfl rfl rfl rfl ⟨rfl, rfl, rfl, rfl, rfl⟩ rfl rfl rfl rfl rfl (by kernel_rfl) Tryd.func8 (by kernel_rfl)
    (of_decide_eq_true (by kernel_rfl)) (by unfold Func.isWrapper; first | (rw [if_pos (by decide +kernel)]; kernel_rfl) | (rw [if_neg (by decide +kernel)]; exact ⟨rfl, rfl⟩))
    (fun os started H enc _ => lifted os started H enc)
/-- THE STATEMENT: the card, its listed variables tied to the program's text. -/
theorem proved : Rows.KeptFullCardSaid :=
  Claim7.holds_tied_plain_at .later [] [.data, .pinned] true _ false
    over (fun _ h => by cases h) (by kernel_rfl) (fun _ h => by cases h) keptFull_row_tie rfl ⟨rfl, rfl⟩ (by kernel_rfl) rfl
    (fun f fn hf hfn => by
      obtain rfl : f = 8 := Option.some.inj ((show Tryd.prog.funcNamed "kiosk/kiosklaw22.KeptFull" = some 8 by kernel_rfl).symm.trans hf) |>.symm
      obtain rfl : fn = Tryd.f8 := (Option.some.inj (Tryd.func8.symm.trans hfn)).symm
      exact ⟨by kernel_rfl, fun j t ht => by
        rw [Tryd.params8] at ht
        have hm : t ∈ [56] := by simpa using Array.mem_of_getElem? ht
        have hall : ([56].all fun u => !Tryd.prog.wantsStandIn u) = true := by kernel_rfl
        exact (show Tryd.prog.wantsStandIn t = false by simpa using List.all_eq_true.1 hall t hm)⟩)
    (by kernel_rfl)
end keptFull
-- CLAIM: KeptFullCardSaid keptFull.proved
end Go.Proofs.YtoibdhncfdjdoaaDoor
