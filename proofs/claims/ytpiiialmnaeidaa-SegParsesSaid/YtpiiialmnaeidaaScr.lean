import Derived.Test.YtpiiialmnaeidaaOwn
import Derived.Laws.BitsAllLaws
import Derived.Deep.RegionWith
namespace Go.Proofs.Ytpiiialmnaeidaa
open Go.RowKit
theorem scr_byte (x : UInt8) : ∃ y : UInt8, (y.toNat : Int) = bits .xor .u8 (x.toNat : Int) 85 := by
  have hx := x.toNat_lt
  refine ⟨UInt8.ofNat (x.toNat ^^^ 85), ?_⟩
  have h := u8_xor_nat x.toNat 85 (by omega) (by omega)
  have h2 : x.toNat ^^^ 85 < 2 ^ 8 := Nat.xor_lt_two_pow (by omega) (by omega)
  rw [show (85 : Int) = ((85 : Nat) : Int) by rfl, h]
  simp only [UInt8.toNat_ofNat']; omega
set_option maxRecDepth 100000 in
set_option maxHeartbeats 2000000 in
theorem scribble_any (base n : Nat) (v : Value) (l : List UInt8) (w : World) (hown : w.ownsRow base 5 1 v n (l.map B8)) (hn : n ≤ 1000000) (hbase : base ≤ w.heap.size) :
    Calls Try.prog 29 #[v] w fun e w' => e = .returned (.tuple #[]) ∧ Below base w w' := by
  obtain ⟨i0, hi, hz0, hz1, hz2⟩ := info_parts infoU8
  have hl : n = l.length := (Sl.of_own hown).2
  obtain ⟨ao, cap, rfl⟩ := own_slice hown
  go_enter Try.func29, Try.ntmps29
  go_wp2
  go_loopw [2] (fun i wr => ∃ k : Nat, k ≤ n ∧ i = .int .i64 k ∧ Below base w wr ∧ ∃ xs : List UInt8, xs.length = n ∧ wr.ownsRow base 5 1 (.slice ao n cap) n (xs.map B8)) (fun i _ => n - (intOf i).toNat)
  case atStart => exact ⟨0, by omega, rfl, Below.refl _ _, l, hl.symm, hown⟩
  case round =>
    obtain ⟨k, hk, rfl, hbl, xs, hxl, ho⟩ := hrel
    clear hown
    by_cases hlt : k < n
    · obtain ⟨g, cap', hv, hbg, hcap, hmax, hO⟩ := own_of ho (by intro h; simp [h] at hxl; omega)
      obtain ⟨rfl, rfl⟩ : ao = some ⟨g, 0, none⟩ ∧ cap = cap' := by simpa [hxl] using hv
      clear hv
      obtain ⟨x, hx⟩ : ∃ x, xs[k]? = some x := ⟨_, List.getElem?_eq_getElem (by omega)⟩
      have hc : wr.cell? ⟨g, k, none⟩ = some (.int .u8 (x.toNat : Int)) := by
        rw [ho.cellAt k (by omega), List.getElem?_map, hx]; rfl
      have hfz := ho.frozenAt k
      obtain ⟨y, hy⟩ := scr_byte x
      have HY := Lib.hid hy; have HO := Lib.hid ho; have HX := Lib.hid hxl; have HBL := Lib.hid hbl
      clear hy ho hxl hbl hO hx
      go_wp2
      rw [← HY.out]
      go_roundw
      case rel => 
        refine ⟨k + 1, by omega, by go_num, HBL.out.setCell (by exact hbg) _, xs.set k y, by simp [HX.out], ?_⟩
        have := HO.out.stored k (B8 y)
        rw [List.map_set]
        exact this.1
      case measure => simp [intOf]; omega
    · have HB := Lib.hid hbl; clear hbl
      go_wp2_with (first
        | (at_builtin; refine wpList_append_at _ rfl _ _ 25 rfl base 5 i0 (.int .u8 0) 1 1 Try.underlying25 hi hz0 hz1 hz2 rfl (by decide) _ _ _ rfl (ho.alloc _) ⟨wr.heap.size, 0, none⟩ 1 1 [B8 5] rfl rfl ?c1 ?c2 ?c3 ?c4 ?c5 ?_))
      case c1 =>
        intro t u hj
        match t, hj with
        | 0, hj => simp at hj; subst hj; simp [Addr.add]
      case c2 => intro u hu; simp at hu; subst hu; rfl
      case c3 => unfold maxLen; omega
      case c4 => omega
      case c5 => have := HB.out.size; simp; omega
      intro v' w1 hown' hgrow hat
      go_wp2
      refine bodyPost_end (v := .tuple #[]) (by simp [results, Try.results29]) rfl ⟨rfl, ?_⟩
      have hgr : Grew wr w1 (.slice ao l.length cap) v' := (Grew.refl _ _).app hgrow hat
      exact HB.out.trans (grew_below hgr (Nat.le_trans hbase HB.out.size) (fun k hk => (ho.lt k (by rw [hl]; exact hk)).1))
end Go.Proofs.Ytpiiialmnaeidaa
