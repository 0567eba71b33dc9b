/-
  The page's disk: a new one; a sector's bytes; which may be.
  The page's disk: what is pending.
  The page's disk: Complete.
-/
import Derived.Test.YtcglmkcefenjcaaRdV
import Derived.Test.YtcglmkcefenjcaaDkK
import Derived.Test.YtcglmkcefenjcaaDkL
import Derived.Test.YtcglmkcefenjcaaList
namespace Go.Proofs.Ytcglmkcefenjcaa
open Go.RowKit Go.Lib
theorem rnew_asm {B q n : Nat} {b : List UInt8} {a1 a2 ay : Option Addr} {c1 c2 : Nat} {W : World} (h : Owns B [q] [⟨5, 1, .slice a1 b.length c1, b.length, b.map B8⟩, ⟨5, 1, .slice a2 b.length c2, b.length, b.map B8⟩, ⟨4, 1, .slice ay n n, n, List.replicate n (.bool false)⟩] W) (hn : n = b.length / 64) (hq : B ≤ q)
    (hr : RowAt W q [.slice a1 b.length c1, .slice a2 b.length c2, .slice ay n n, .slice none 0 0, .int .i64 0, .bool false, .int .i64 0, .bool false]) : RDk B [] q (newD b) W := by
  have h2 := h.addNil 140 4
  subst hn
  have hl : (newD b).dy.length = b.length / 64 := List.length_replicate ..
  refine ⟨a1, c1, a2, c2, ay, b.length / 64, none, 0, [], ?_, rfl, hq, ?_⟩
  · show RowAt W q [.slice a1 b.length c1, .slice a2 b.length c2, .slice ay (newD b).dy.length (b.length / 64), .slice none 0 0, .int .i64 0, .bool false, .int .i64 0, .bool false]
    rw [hl]; exact hr
  · have e2 : RRs (.slice a1 (newD b).dur.length c1) (.slice a2 (newD b).now.length c2) (.slice ay (newD b).dy.length (b.length / 64)) (.slice none ([] : List (Rq × Value)).length 0) (newD b) [] = (([⟨5, 1, .slice a1 b.length c1, b.length, b.map B8⟩, ⟨5, 1, .slice a2 b.length c2, b.length, b.map B8⟩, ⟨4, 1, .slice ay (b.length / 64) (b.length / 64), (b.length / 64), List.replicate (b.length / 64) (.bool false)⟩] : List OR) ++ [⟨140, 4, .slice none 0 0, 0, []⟩]) := by
      unfold RRs
      rw [hl]
      simp [newD]
    rw [e2]; exact h2
set_option maxRecDepth 100000 in
set_option maxHeartbeats 4000000 in
theorem rnew_any {b : List UInt8} {va : Option Addr} {vc : Nat} {w : World} (hSl : Sl w (.slice va b.length vc) b) (hbl : b.length ≤ 1000000) :
    Calls Try.prog 34 #[.slice va b.length vc] w fun e w' => ∃ q, e = .returned (.pointer (some ⟨q, 0, none⟩)) ∧ w.heap.size ≤ q ∧ RDk w.heap.size [] q (newD b) w' ∧ Below w.heap.size w w' := by
  have hb0 := Below.refl w.heap.size w
  have ho : Owns w.heap.size [] [] w := Owns.nil (fun k hk => (nomatch hk))
  refine fw_en 13 [(0, .slice va b.length vc)] Try.func34 rfl Try.ntmps34 rfl ⟨rfl, trivial⟩ ?_
  refine fw_sq ?_
  refine fw_rg rfl ?_
  refine fw_pu rfl ?_
  refine fw_dt ?_
  refine fw_sq ?_
  refine fw_hr (fun X => Below w.heap.size w X) (by kernel_rfl) 11 rfl ?_
  intro W1 s2
  have b3 := hb0.trans (s2.mono hb0.size)
  have f4 := (Owns.below ho s2)
  refine ⟨b3, ?_⟩
  refine fw_tk 0 rfl rfl (by kernel_rfl) (fun _ _ _ _ _ h => h) ?_
  refine fw_tk 2 rfl rfl (by kernel_rfl) (fun _ _ _ _ _ h => h) ?_
  refine fw_tk 4 rfl rfl (by kernel_rfl) (fun _ _ _ _ _ h => h) ?_
  refine fw_tk 5 rfl rfl (by kernel_rfl) (fun _ _ _ _ _ h => h) ?_
  refine fw_tx 6 9 (.int .i64 (((b.length / 64) : Nat) : Int)) rfl rfl rfl rfl (fun a h W hW => by have b3 := hW; exact (run_binOp (h.ev rfl) (h.ev rfl) (by simp [go_sem]) (quoL _ _ hbl))) (by kernel_rfl) (fun _ _ _ _ _ h => h) ?_
  refine fw_o2 1 7 (by kernel_rfl) ?_ ?_
  · skip
    have hWB6 : w.heap.size ≤ W1.heap.size := b3.size
    refine fw_ov (fun v X => ∃ a2 c2, v = .slice a2 b.length c2 ∧ Below W1.heap.size W1 X ∧ X.ownsRow W1.heap.size 5 1 (.slice a2 b.length c2) b.length (b.map B8)) rfl Try.func14 rfl rfl rfl ((copyBytes_any _ b W1 hbl (hSl.below b3)).mono fun e X ⟨v, he, h1, h2⟩ => by obtain ⟨a2, c2, rfl⟩ := own_slice h2; exact ⟨_, he, a2, c2, rfl, h1, h2⟩) ?_
    rintro _ V5 ⟨a6, c6, rfl, hb6, hd6⟩
    have hoN6 := Owns.add (r' := ⟨5, 1, .slice a6 b.length c6, b.length, b.map B8⟩) f4 hb6 hd6 hWB6
    have b7 := (b3.trans (hb6.mono hWB6))
    have f8 := hoN6
    refine ⟨b7, ?_⟩
    refine fw_o2 3 7 (by kernel_rfl) ?_ ?_
    · skip
      have hWB10 : w.heap.size ≤ V5.heap.size := b7.size
      refine fw_ov (fun v X => ∃ a2 c2, v = .slice a2 b.length c2 ∧ Below V5.heap.size V5 X ∧ X.ownsRow V5.heap.size 5 1 (.slice a2 b.length c2) b.length (b.map B8)) rfl Try.func14 rfl rfl rfl ((copyBytes_any _ b V5 hbl (hSl.below b7)).mono fun e X ⟨v, he, h1, h2⟩ => by obtain ⟨a2, c2, rfl⟩ := own_slice h2; exact ⟨_, he, a2, c2, rfl, h1, h2⟩) ?_
      rintro _ V9 ⟨a10, c10, rfl, hb10, hd10⟩
      have hoN10 := Owns.add (r' := ⟨5, 1, .slice a10 b.length c10, b.length, b.map B8⟩) f8 hb10 hd10 hWB10
      have b11 := (b7.trans (hb10.mono hWB10))
      have f12 := hoN10
      refine ⟨b11, ?_⟩
      refine fw_o1 7 (by kernel_rfl) ?_
      have hWB14 : w.heap.size ≤ V9.heap.size := b11.size
      obtain ⟨i14, hi14, hz014, hz114, hz214⟩ := info_parts infoBoolD
      refine fw_ot rfl 10 rfl rfl rfl (fun a h => (opTo_make 125 4 _ (b.length / 64) (.bool false) i14 rfl Try.underlying125 hi14 hz014 hz114 (by rw [hz214]; decide) rfl (h.ev rfl) (by omega))) ?_
      rintro _ V13 ⟨rfl, hoy, hby⟩
      have hoN14 := Owns.add (r' := ⟨4, 1, .slice (some ⟨V9.heap.size, 0, none⟩) (b.length / 64) (b.length / 64), (b.length / 64), List.replicate (b.length / 64) (.bool false)⟩) f12 hby hoy hWB14
      have b15 := b11.trans (hby.mono hWB14)
      refine ⟨b15, ?_⟩
      refine fw_tx 8 11 (.agg #[.slice a6 b.length c6, .slice a10 b.length c10, .slice (some ⟨V9.heap.size, 0, none⟩) (b.length / 64) (b.length / 64), .slice none 0 0, .int .i64 0, .bool false, .int .i64 0, .bool false]) rfl rfl rfl rfl (fun a h W hW => by have b15 := hW; exact (run_buildOp (bp3 (h.ev rfl) (h.ev rfl) (h.ev rfl)) (by first | kernel_rfl | rfl))) (by kernel_rfl) (fun _ _ _ _ _ h => h) ?_
      refine fw_o1 9 (by kernel_rfl) ?_
      refine fw_ob rfl rfl (cs := [.slice a6 b.length c6, .slice a10 b.length c10, .slice (some ⟨V9.heap.size, 0, none⟩) (b.length / 64) (b.length / 64), .slice none 0 0, .int .i64 0, .bool false, .int .i64 0, .bool false]) rfl ?_
      intro q16 W17 g20 s18 r19
      have := Nat.le_trans b15.size g20
      have hqB : w.heap.size ≤ q16 := Nat.le_trans b15.size g20
      have b21 := b15.trans (s18.mono b15.size)
      have f22 := (Owns.hold hoN14 s18 g20 r19.2.2)
      refine ⟨b21, ?_⟩
      refine fw_tk 10 rfl rfl (by kernel_rfl) (fun _ _ _ _ _ h => h) ?_
      refine fw_ht (by kernel_rfl) ?_
      refine fw_rt ?_
      refine ⟨fun a h => ?_⟩
      exact ow_ret1 rfl h.df (h.g 2 rfl) ⟨_, rfl, hqB, rnew_asm (Owns.perm f22 (List.Perm.refl _)) rfl hqB r19, b21⟩
    have hWB24 : w.heap.size ≤ V5.heap.size := b7.size
    obtain ⟨i24, hi24, hz024, hz124, hz224⟩ := info_parts infoBoolD
    refine fw_ot rfl 10 rfl rfl rfl (fun a h => (opTo_make 125 4 _ (b.length / 64) (.bool false) i24 rfl Try.underlying125 hi24 hz024 hz124 (by rw [hz224]; decide) rfl (h.ev rfl) (by omega))) ?_
    rintro _ V23 ⟨rfl, hoy, hby⟩
    have hoN24 := Owns.add (r' := ⟨4, 1, .slice (some ⟨V5.heap.size, 0, none⟩) (b.length / 64) (b.length / 64), (b.length / 64), List.replicate (b.length / 64) (.bool false)⟩) f8 hby hoy hWB24
    have b25 := b7.trans (hby.mono hWB24)
    refine ⟨b25, ?_⟩
    refine fw_o1 3 (by kernel_rfl) ?_
    have hWB27 : w.heap.size ≤ V23.heap.size := b25.size
    refine fw_ov (fun v X => ∃ a2 c2, v = .slice a2 b.length c2 ∧ Below V23.heap.size V23 X ∧ X.ownsRow V23.heap.size 5 1 (.slice a2 b.length c2) b.length (b.map B8)) rfl Try.func14 rfl rfl rfl ((copyBytes_any _ b V23 hbl (hSl.below b25)).mono fun e X ⟨v, he, h1, h2⟩ => by obtain ⟨a2, c2, rfl⟩ := own_slice h2; exact ⟨_, he, a2, c2, rfl, h1, h2⟩) ?_
    rintro _ V26 ⟨a27, c27, rfl, hb27, hd27⟩
    have hoN27 := Owns.add (r' := ⟨5, 1, .slice a27 b.length c27, b.length, b.map B8⟩) hoN24 hb27 hd27 hWB27
    have b28 := (b25.trans (hb27.mono hWB27))
    have f29 := hoN27
    refine ⟨b28, ?_⟩
    refine fw_tx 8 11 (.agg #[.slice a6 b.length c6, .slice a27 b.length c27, .slice (some ⟨V5.heap.size, 0, none⟩) (b.length / 64) (b.length / 64), .slice none 0 0, .int .i64 0, .bool false, .int .i64 0, .bool false]) rfl rfl rfl rfl (fun a h W hW => by have b28 := hW; exact (run_buildOp (bp3 (h.ev rfl) (h.ev rfl) (h.ev rfl)) (by first | kernel_rfl | rfl))) (by kernel_rfl) (fun _ _ _ _ _ h => h) ?_
    refine fw_o1 9 (by kernel_rfl) ?_
    refine fw_ob rfl rfl (cs := [.slice a6 b.length c6, .slice a27 b.length c27, .slice (some ⟨V5.heap.size, 0, none⟩) (b.length / 64) (b.length / 64), .slice none 0 0, .int .i64 0, .bool false, .int .i64 0, .bool false]) rfl ?_
    intro q30 W31 g34 s32 r33
    have := Nat.le_trans b28.size g34
    have hqB : w.heap.size ≤ q30 := Nat.le_trans b28.size g34
    have b35 := b28.trans (s32.mono b28.size)
    have f36 := (Owns.hold f29 s32 g34 r33.2.2)
    refine ⟨b35, ?_⟩
    refine fw_tk 10 rfl rfl (by kernel_rfl) (fun _ _ _ _ _ h => h) ?_
    refine fw_ht (by kernel_rfl) ?_
    refine fw_rt ?_
    refine ⟨fun a h => ?_⟩
    exact ow_ret1 rfl h.df (h.g 2 rfl) ⟨_, rfl, hqB, rnew_asm (Owns.perm f36 (List.Perm.cons _ (List.Perm.swap _ _ _))) rfl hqB r33, b35⟩
  have hWB38 : w.heap.size ≤ W1.heap.size := b3.size
  obtain ⟨i38, hi38, hz038, hz138, hz238⟩ := info_parts infoBoolD
  refine fw_ot rfl 10 rfl rfl rfl (fun a h => (opTo_make 125 4 _ (b.length / 64) (.bool false) i38 rfl Try.underlying125 hi38 hz038 hz138 (by rw [hz238]; decide) rfl (h.ev rfl) (by omega))) ?_
  rintro _ V37 ⟨rfl, hoy, hby⟩
  have hoN38 := Owns.add (r' := ⟨4, 1, .slice (some ⟨W1.heap.size, 0, none⟩) (b.length / 64) (b.length / 64), (b.length / 64), List.replicate (b.length / 64) (.bool false)⟩) f4 hby hoy hWB38
  have b39 := b3.trans (hby.mono hWB38)
  refine ⟨b39, ?_⟩
  refine fw_o1 1 (by kernel_rfl) ?_
  have hWB41 : w.heap.size ≤ V37.heap.size := b39.size
  refine fw_ov (fun v X => ∃ a2 c2, v = .slice a2 b.length c2 ∧ Below V37.heap.size V37 X ∧ X.ownsRow V37.heap.size 5 1 (.slice a2 b.length c2) b.length (b.map B8)) rfl Try.func14 rfl rfl rfl ((copyBytes_any _ b V37 hbl (hSl.below b39)).mono fun e X ⟨v, he, h1, h2⟩ => by obtain ⟨a2, c2, rfl⟩ := own_slice h2; exact ⟨_, he, a2, c2, rfl, h1, h2⟩) ?_
  rintro _ V40 ⟨a41, c41, rfl, hb41, hd41⟩
  have hoN41 := Owns.add (r' := ⟨5, 1, .slice a41 b.length c41, b.length, b.map B8⟩) hoN38 hb41 hd41 hWB41
  have b42 := (b39.trans (hb41.mono hWB41))
  have f43 := hoN41
  refine ⟨b42, ?_⟩
  refine fw_o1 3 (by kernel_rfl) ?_
  have hWB45 : w.heap.size ≤ V40.heap.size := b42.size
  refine fw_ov (fun v X => ∃ a2 c2, v = .slice a2 b.length c2 ∧ Below V40.heap.size V40 X ∧ X.ownsRow V40.heap.size 5 1 (.slice a2 b.length c2) b.length (b.map B8)) rfl Try.func14 rfl rfl rfl ((copyBytes_any _ b V40 hbl (hSl.below b42)).mono fun e X ⟨v, he, h1, h2⟩ => by obtain ⟨a2, c2, rfl⟩ := own_slice h2; exact ⟨_, he, a2, c2, rfl, h1, h2⟩) ?_
  rintro _ V44 ⟨a45, c45, rfl, hb45, hd45⟩
  have hoN45 := Owns.add (r' := ⟨5, 1, .slice a45 b.length c45, b.length, b.map B8⟩) f43 hb45 hd45 hWB45
  have b46 := (b42.trans (hb45.mono hWB45))
  have f47 := hoN45
  refine ⟨b46, ?_⟩
  refine fw_tx 8 11 (.agg #[.slice a41 b.length c41, .slice a45 b.length c45, .slice (some ⟨W1.heap.size, 0, none⟩) (b.length / 64) (b.length / 64), .slice none 0 0, .int .i64 0, .bool false, .int .i64 0, .bool false]) rfl rfl rfl rfl (fun a h W hW => by have b46 := hW; exact (run_buildOp (bp3 (h.ev rfl) (h.ev rfl) (h.ev rfl)) (by first | kernel_rfl | rfl))) (by kernel_rfl) (fun _ _ _ _ _ h => h) ?_
  refine fw_o1 9 (by kernel_rfl) ?_
  refine fw_ob rfl rfl (cs := [.slice a41 b.length c41, .slice a45 b.length c45, .slice (some ⟨W1.heap.size, 0, none⟩) (b.length / 64) (b.length / 64), .slice none 0 0, .int .i64 0, .bool false, .int .i64 0, .bool false]) rfl ?_
  intro q48 W49 g52 s50 r51
  have := Nat.le_trans b46.size g52
  have hqB : w.heap.size ≤ q48 := Nat.le_trans b46.size g52
  have b53 := b46.trans (s50.mono b46.size)
  have f54 := (Owns.hold f47 s50 g52 r51.2.2)
  refine ⟨b53, ?_⟩
  refine fw_tk 10 rfl rfl (by kernel_rfl) (fun _ _ _ _ _ h => h) ?_
  refine fw_ht (by kernel_rfl) ?_
  refine fw_rt ?_
  refine ⟨fun a h => ?_⟩
  exact ow_ret1 rfl h.df (h.g 2 rfl) ⟨_, rfl, hqB, rnew_asm (Owns.perm f54 ((List.Perm.swap _ _ _).trans (List.Perm.cons _ (List.Perm.swap _ _ _)))) rfl hqB r51, b53⟩
set_option maxRecDepth 100000 in
set_option maxHeartbeats 4000000 in
theorem rat_any (g N cn m : Nat) (w : World) (hm : m * 64 + 64 ≤ N) (hcn : N ≤ cn) (hml : m ≤ 100000) :
    Calls Try.prog 81 #[.slice (some ⟨g, 0, none⟩) N cn, .int .i64 ((m : Nat) : Int)] w fun e w' => e = .returned (.slice (some ⟨g, m * 64, none⟩) 64 (cn - m * 64)) ∧ w = w' := by
  have hb0 := Below.refl w.heap.size w
  refine fw_en 12 [(0, .slice (some ⟨g, 0, none⟩) N cn), (1, .int .i64 ((m : Nat) : Int))] Try.func81 rfl Try.ntmps81 rfl ⟨rfl, rfl, trivial⟩ ?_
  refine fw_sq ?_
  refine fw_rg rfl ?_
  refine fw_pu rfl ?_
  refine fw_dt ?_
  refine fw_sq ?_
  refine fw_rg rfl ?_
  iterate 2 refine fw_pu rfl ?_
  refine fw_ex 7 (.int .i64 (((m * 64) : Nat) : Int)) rfl rfl rfl (fun a h => (run_binOp (h.ev rfl) (h.ev rfl) (by simp [go_sem]) (mulIw _ _ _ _ (by omega) (by omega) (by omega)))) ?_
  refine fw_pu rfl ?_
  refine fw_ex 9 (.int .i64 (((m + 1) : Nat) : Int)) rfl rfl rfl (fun a h => (run_binOp (h.ev rfl) (h.ev rfl) (by simp [go_sem]) (addIw _ _ _ _ (by omega) (by omega) (by omega)))) ?_
  refine fw_ex 10 (.int .i64 ((((m + 1) * 64) : Nat) : Int)) rfl rfl rfl (fun a h => (run_binOp (h.ev rfl) (h.ev rfl) (by simp [go_sem]) (mulIw _ _ _ _ (by omega) (by omega) (by omega)))) ?_
  refine fw_ex 11 (.slice (some ⟨g, m * 64, none⟩) 64 (cn - m * 64)) rfl rfl rfl (fun a h => (run_sliceOp2 (h.ev rfl) (h.ev rfl) (h.ev rfl) (sec_run g _ cn m _ hm hcn))) ?_
  refine fw_pu rfl ?_
  refine fw_dt ?_
  refine fw_rt ?_
  refine ⟨fun a h => ?_⟩
  exact ow_ret1 rfl h.df (h.g 4 rfl) ⟨rfl, rfl⟩
set_option maxRecDepth 100000 in
set_option maxHeartbeats 4000000 in
theorem rmay_any (b : List UInt8) (va : Option Addr) (vc : Nat) (w : World) (hbl : b.length ≤ 1000000) :
    Calls Try.prog 31 #[.slice va b.length vc] w fun e w' => e = .returned (.bool (newOK b)) ∧ w = w' := by
  have hb0 := Below.refl w.heap.size w
  refine fw_en 17 [(0, .slice va b.length vc)] Try.func31 rfl Try.ntmps31 rfl ⟨rfl, trivial⟩ ?_
  refine fw_sq ?_
  refine fw_rg rfl ?_
  refine fw_pu rfl ?_
  refine fw_dt ?_
  refine fw_sq ?_
  refine fw_rg rfl ?_
  iterate 4 refine fw_pu rfl ?_
  rcases Bool.eq_false_or_eq_true ((decide (64 ≤ ((b.length : Nat) : Int)))) with hb_1 | hb_1
  · skip
    refine fw_kn 6 rfl hb_1 ?_
    iterate 5 refine fw_pu rfl ?_
    rcases Bool.eq_false_or_eq_true ((decide (((b.length : Nat) : Int) ≤ 262144))) with hb_2 | hb_2
    · skip
      refine fw_kn 11 rfl hb_2 ?_
      iterate 2 refine fw_pu rfl ?_
      refine fw_ex 14 (.int .i64 (((b.length % 64) : Nat) : Int)) rfl rfl rfl (fun a h => (run_binOp (h.ev rfl) (h.ev rfl) (by simp [go_sem]) (remL _ _ hbl))) ?_
      iterate 3 refine fw_pu rfl ?_
      refine fw_dt ?_
      refine fw_rt ?_
      refine ⟨fun a h => ?_⟩
      have q0 := hb_1
      simp at q0
      have q1 := hb_2
      simp at q1
      have em : newOK b = ((((b.length % 64) : Nat) : Int) == 0) := by unfold newOK; rw [Bool.eq_iff_iff]; simp; omega
      exact ow_ret1 rfl h.df (h.g 2 rfl) ⟨by rw [em], rfl⟩
    refine fw_kn 11 rfl hb_2 ?_
    iterate 6 refine fw_pu rfl ?_
    refine fw_dt ?_
    refine fw_rt ?_
    refine ⟨fun a h => ?_⟩
    have q0 := hb_1
    simp at q0
    have q1 := hb_2
    simp at q1
    have em : newOK b = false := by unfold newOK; rw [Bool.eq_iff_iff]; simp; omega
    exact ow_ret1 rfl h.df (h.g 2 rfl) ⟨by rw [em], rfl⟩
  refine fw_kn 6 rfl hb_1 ?_
  iterate 11 refine fw_pu rfl ?_
  refine fw_dt ?_
  refine fw_rt ?_
  refine ⟨fun a h => ?_⟩
  have q0 := hb_1
  simp at q0
  have em : newOK b = false := by unfold newOK; rw [Bool.eq_iff_iff]; simp; omega
  exact ow_ret1 rfl h.df (h.g 2 rfl) ⟨by rw [em], rfl⟩
abbrev rwI (x : Int) : List Value := [.int .i64 x]
theorem infoIn : (Try.prog.info? 3).map (fun i => (i.zero, i.size, i.bytes)) = some (some (.int .i64 0), 1, 8) := by kernel_rfl
theorem sizeIn : (Try.prog.info? 3).map (·.size) = some 1 := by kernel_rfl
/-- A list of them, a row of our own. -/
def InOwn (w : World) (base : Nat) (v : Value) (L : List Int) : Prop := w.ownsRow base 3 1 v L.length (L.map rwI).flatten
theorem In_n (L : List Int) : ∀ r ∈ L.map rwI, r.length = 1 := by intro r hr; obtain ⟨y, -, rfl⟩ := List.mem_map.1 hr; rfl
theorem In_one (L : List Int) : ∀ u ∈ (L.map rwI).flatten, u.oneCell' = true := by
  intro u hu
  obtain ⟨r, hr, hu⟩ := List.mem_flatten.1 hu
  obtain ⟨y, -, rfl⟩ := List.mem_map.1 hr
  simp at hu
  rcases hu with rfl <;> rfl
theorem InOwn.slr {w : World} {base : Nat} {v : Value} {L : List Int} (h : InOwn w base v L) : SlR w 1 v (L.map rwI) := (SlR.of_own (by decide) (In_n L) h).1
theorem InOwn.below {w w' : World} {base : Nat} {v : Value} {L : List Int} (h : InOwn w base v L) (hb : Below w.heap.size w w') : InOwn w' base v L := below_own h hb
theorem InOwn.nil (w : World) (base : Nat) : InOwn w base (.slice none 0 0) [] := World.ownsRow_nil _ _ _ _
theorem InOwn.mono {w : World} {base base' : Nat} {v : Value} {L : List Int} (h : InOwn w base v L) (hb : base' ≤ base) : InOwn w base' v L := own_mono h hb
/-- One more, behind the others. -/
theorem In_app {o : Oper} {a : Act} {w : World} (s x : Operand) (ho : o.op = .call { callee := .builtin .append, args := #[s, x], argTypes := #[55, 55] }) {base q : Nat} {v : Value} {L : List Int} {e : Int} (hs : a.eval s = v) (hown : InOwn w base v L) (hx : a.eval x = .slice (some ⟨q, 0, none⟩) 1 1) (hr : RowAt w q (rwI e)) (hn : L.length ≤ 100000) (hbase : base ≤ w.heap.size) :
    opTo Try.prog o a w fun v' w' => Grew w w' v v' ∧ InOwn w' base v' (L ++ [e]) := by
  obtain ⟨i0, hi, hz0, hz1, hz2⟩ := info_parts infoIn
  have h := opTo_app s x 55 3 ho base i0 _ 1 8 Try.underlying55 hi hz0 hz1 hz2 rfl (by decide) v L.length _ hs hown ⟨q, 0, none⟩ 1 1 (rwI e) hx rfl (fun j u' hj => by
    have e' : ((⟨q, 0, none⟩ : Addr).add j) = ⟨q, j, none⟩ := by unfold Addr.add; split <;> simp_all
    rw [e']; exact hr.1 j u' hj) (fun u' hu => by
      have := In_one [e] u' (by simpa using hu); exact this) (by unfold maxLen; omega) (by omega) hbase
  unfold InOwn
  rw [List.length_append, List.length_singleton, List.map_append, List.flatten_append, show ([e].map rwI).flatten = rwI e by simp]
  exact h
set_option maxRecDepth 100000 in
set_option maxHeartbeats 1000000 in
theorem eqNumbers_any (v1 v2 : Value) (l1 l2 : List Int) (w : World) (hl : l1.length ≤ 1000000) (_hl2 : l2.length ≤ 1000000) (hv1 : SlR w 1 v1 (l1.map rwI)) (hv2 : SlR w 1 v2 (l2.map rwI)) :
    Calls Try.prog 49 #[v1, v2] w fun e w' => e = .returned (.bool (decide (l1 = l2))) ∧ ∃ m, w' = w.drewN m := by
  obtain ⟨ao1, cap1, rfl, -, -, -, hB1⟩ := hv1
  obtain ⟨ao2, cap2, rfl, -, -, -, hB2⟩ := hv2
  simp only [List.length_map] at hB1 hB2 ⊢
  have HB1 := Lib.hid hB1; clear hB1
  have HB2 := Lib.hid hB2; clear hB2
  by_cases hlen : l1.length = l2.length
  · have hne : ((l1.length : Int) != (l2.length : Int)) = false := by simp [hlen]
    have HL := Lib.hid hlen
    go_enter Try.func49, Try.ntmps49
    have h1 : l1.length ≤ l2.length := by omega
    have h2 : l2.length ≤ l1.length := by omega
    clear hlen
    go_wp2
    go_loopw [5] (fun i wr => ∃ (k m : Nat), k ≤ l1.length ∧ i = .int .i64 k ∧ wr = w.drewN m ∧ l1.take k = l2.take k) (fun i _ => l1.length - (intOf i).toNat)
    case atStart => exact ⟨0, 0, by omega, rfl, rfl, rfl⟩
    case round =>
      obtain ⟨k, m, hk, rfl, rfl, heq⟩ := hrel
      have HE := Lib.hid heq; clear heq
      by_cases hlt : k < l1.length
      · obtain ⟨b1, off1, rfl, hbw1, hBB1⟩ := HB1.out (by intro h; simp at h; simp [h] at hlt)
        obtain ⟨x, hx⟩ : ∃ x, l1[k]? = some x := ⟨_, List.getElem?_eq_getElem hlt⟩
        obtain ⟨b2, off2, rfl, hbw2, hBB2⟩ := HB2.out (by intro h; rw [List.map_eq_nil_iff] at h; have h5 : l2.length = 0 := (by rw [h]; rfl); omega)
        obtain ⟨y, hy⟩ : ∃ x, l2[k]? = some x := ⟨_, List.getElem?_eq_getElem (by omega)⟩
        have hcx : w.cell? ⟨b1, off1 + k, none⟩ = some (.int .i64 x) := by
          have := hBB1 k (rwI x) (by rw [List.getElem?_map, hx]; rfl) 0 _ rfl
          simpa using this
        have hcy : w.cell? ⟨b2, off2 + k, none⟩ = some (.int .i64 y) := by
          have := hBB2 k (rwI y) (by rw [List.getElem?_map, hy]; rfl) 0 _ rfl
          simpa using this
        have HX := Lib.hid hx; clear hx hBB1
        have HY := Lib.hid hy; clear hy hBB2
        have ht1 : l1.take (k+1) = l1.take k ++ [x] := by rw [List.take_add_one, HX.out]; rfl
        have ht2 : l2.take (k+1) = l2.take k ++ [y] := by rw [List.take_add_one, HY.out]; rfl
        have HT1 := Lib.hid ht1; have HT2 := Lib.hid ht2; clear ht1 ht2
        by_cases hxy : x = y
        · subst hxy
          have heq2 : ((x : Int) != (x : Int)) = false := by simp
          go_wp2
          go_quiet (fail)
          go_wp2
          go_roundw
          case rel => exact ⟨k + 1, m + nq, by omega, by go_num, rfl, by rw [HT1.out, HT2.out, HE.out]⟩
          case measure => simp [intOf]; omega
        · have hne2 : ((x : Int) != (y : Int)) = true := by simpa using hxy
          have hfin : decide (l1 = l2) = false := by
            simp only [decide_eq_false_iff_not]; intro h
            have := HX.out; rw [h, HY.out] at this; exact hxy (by simpa using this.symm)
          have HF := Lib.hid hfin; clear hfin hxy
          go_wp2
          go_quiet (fail)
          go_wp2
          go_ret
          exact ⟨by rw [HF.out]; rfl, _, by first | rfl | exact World.drewN_drewN _ _ _⟩
      · have : k = l1.length := by omega
        have hfin : decide (l1 = l2) = true := by
          simp only [decide_eq_true_eq]
          have := HE.out; rw [List.take_of_length_le (by omega), List.take_of_length_le (by omega)] at this; exact this
        have HF := Lib.hid hfin; clear hfin this HB1 HB2
        go_wp2
        go_ret
        exact ⟨by rw [HF.out]; rfl, _, rfl⟩
  · have hne : ((l1.length : Int) != (l2.length : Int)) = true := by
      simp only [bne_iff_ne, ne_eq]; omega
    have hfin : decide (l1 = l2) = false := by simp only [decide_eq_false_iff_not]; intro h; exact hlen (by rw [h])
    have HF := Lib.hid hfin; clear hfin hlen HB1 HB2
    go_enter Try.func49, Try.ntmps49
    go_wp2
    go_ret
    exact ⟨by rw [HF.out]; rfl, 0, rfl⟩
theorem flatNumbers (l : List Int) : (l.map rwI).flatten = l.map (fun x => (.int .i64 x : Value)) := by induction l with | nil => rfl | cons x t ih => simp [ih]
theorem bs1In {ρ : Operand → Value} {d : Option Tmp} {ty : TypeId} {pos : String} {af : Array Edge} {g : Option (Nat × Bool)} {x : Operand} (s : Int) (w : World) (hx : ρ x = .int .i64 s) : (execOp ρ ⟨d, .buildSlice 55 1 #[(0, x)], ty, pos, af, g⟩).run Try.prog w = .ok (.value (.slice (some ⟨w.heap.size, 0, none⟩) 1 1)) (w.alloc (.cells (rwI s).toArray 3)) := by
  simp [execOp, hx, go_sem, Instr.buildSlice]
theorem ids_in (l : List Rq) : idsV l = ((l.map (·.id)).map rwI).flatten := by
  unfold idsV
  induction l with
  | nil => rfl
  | cons r l ih => rw [List.map_cons, List.map_cons, List.map_cons, List.flatten_cons, ← ih]; rfl
theorem ridxR (b n cap i : Nat) (hi : i < n) (w : World) : (Instr.indexAt 129 (.slice (some ⟨b, 0, none⟩) n cap) (.int .i64 (i : Int))).run Try.prog w = .ok (.pointer (some ⟨b, i * 4, none⟩)) w := by
  have h2 : ¬ n ≤ i := by omega
  simp [go_sem, Instr.indexAt, h2]
theorem rszReq : (Try.prog.info? 140).map (·.size) = some 4 := by kernel_rfl
section
variable {B q : Nat} {H : List Nat} {vd vn vy vp : Value} {d : ED} {PL : List (Rq × Value)} {W : World} {r : Rq} {v : Value} {i : Nat}
theorem RRs_at (hi : PL[i]? = some (r, v)) : (RRs vd vn vy vp d PL)[4 + i]? = some ⟨5, 1, v, r.b.length, r.b.map B8⟩ := by
  unfold RRs
  rw [List.getElem?_append_right (by simp)]
  simp [hi]
theorem RRs_ones (h : Owns B H (RRs vd vn vy vp d PL) W) : ∀ p ∈ PL, p.2.oneCell' = true := fun p hp => by
  have hm : (⟨5, 1, p.2, p.1.b.length, p.1.b.map B8⟩ : OR) ∈ RRs vd vn vy vp d PL := List.mem_append_right _ (List.mem_map.2 ⟨p, hp, rfl⟩)
  obtain ⟨_, _, e⟩ := own_slice (h.at_ _ hm)
  show p.2.oneCell' = true
  rw [show p.2 = _ from e]; rfl
end
theorem ldI1k {W : World} {b o : Nat} {x : Int} (h : W.cell? ⟨b, o, none⟩ = some (.int .i64 x)) : (Instr.loadAt 3 (.pointer (some ⟨b, o, none⟩))).run Try.prog W = .ok (.int .i64 x) W := by simp [go_sem, Instr.loadAt, h]
set_option maxRecDepth 100000 in
set_option maxHeartbeats 4000000 in
theorem rpending_any {B q : Nat} {H : List Nat} {d : ED} {w : World} (hM : RDk B H q d w) (hpl0 : d.ps.length ≤ 100000) :
    Calls Try.prog 50 #[.pointer (some ⟨q, 0, none⟩)] w fun e w' => ∃ v, e = .returned v ∧ Below w.heap.size w w' ∧ InOwn w' w.heap.size v (d.ps.map (·.id)) := by
  obtain ⟨ad, cd, an, cn, ay, cy, ap, cp, PL, hr, hps, hBq, ho⟩ := hM.opn
  have hqw : q < w.heap.size := hr.2.2
  have hBw : B ≤ w.heap.size := by omega
  have hb0 := Below.refl w.heap.size w
  have HHlt := Lib.hid (fun k hk => (ho.held k (List.mem_cons_of_mem _ hk)).1)
  replace hr : RowAt w q [.slice ad d.dur.length cd, .slice an d.now.length cn, .slice ay d.dy.length cy, .slice ap PL.length cp, .int .i64 d.last, .bool d.off, .int .i64 d.left, .bool d.arm] := hr
  have hpl : PL.length ≤ 100000 := by rw [← hps, List.length_map] at hpl0; exact hpl0
  have hrB := hr
  have hoB := ho
  refine fw_en 26 [(0, .pointer (some ⟨q, 0, none⟩))] Try.func50 rfl Try.ntmps50 rfl ⟨rfl, trivial⟩ ?_
  refine fw_sq ?_
  refine fw_rg rfl ?_
  refine fw_pu rfl ?_
  refine fw_dt ?_
  refine fw_sq ?_
  refine fw_rg rfl ?_
  refine fw_pu rfl ?_
  refine fw_dt ?_
  refine fw_sq ?_
  refine fw_sq ?_
  refine fw_rg rfl ?_
  refine fw_pu rfl ?_
  refine fw_dt ?_
  refine fw_bk ?_
  have hinI : InOwn w w.heap.size (.slice none 0 0) [] := InOwn.nil _ _
  refine fw_lp (fun N K W => ∃ (k : Nat) (al : Option Addr) (cl : Nat), N = PL.length - k ∧ k ≤ PL.length ∧ InOwn W w.heap.size (.slice al ((PL.map fun (p : Rq × Value) => p.1.id).take k).length cl) ((PL.map fun (p : Rq × Value) => p.1.id).take k) ∧ K = [(0, .pointer (some ⟨q, 0, none⟩)), (3, .slice al ((PL.map fun (p : Rq × Value) => p.1.id).take k).length cl), (4, .int .i64 ((k : Nat) : Int))] ∧ Below w.heap.size w W ∧ RowAt W q [.slice ad d.dur.length cd, .slice an d.now.length cn, .slice ay d.dy.length cy, .slice ap PL.length cp, .int .i64 d.last, .bool d.off, .int .i64 d.left, .bool d.arm] ∧ Owns B (q :: H) (RRs (.slice ad d.dur.length cd) (.slice an d.now.length cn) (.slice ay d.dy.length cy) (.slice ap PL.length cp) d PL) W) _ _ ⟨0, none, 0, rfl, Nat.zero_le _, (by simpa using hinI), rfl, hb0, hr, ho⟩ ⟨rfl, (by simp only [Look, cond, Nat.beq]; first | rfl | rw [hslE] | simp), (by first | rfl | (simp only [Look, cond, Nat.beq]; first | rfl | (congr 2; first | rfl | omega | (push_cast; omega)) | (simp; try omega))), trivial⟩ ?_
  rintro N _ W1 ⟨k, al, cl, rfl, hkle, hin0, rfl, bW1, rW1_0, fW1_0⟩
  intro K3 hK3
  refine fw_sq ?_
  refine fw_sq ?_
  refine fw_rg rfl ?_
  iterate 4 refine fw_pu rfl ?_
  refine fw_ld rW1_0 rfl rfl ?_
  iterate 2 refine fw_pu rfl ?_
  refine fw_dt ?_
  rcases Bool.eq_false_or_eq_true ((decide (((k : Nat) : Int) < ((PL.length : Nat) : Int)))) with hb_4 | hb_4
  · skip
    refine fw_cT rfl hb_4 ?_
    refine fw_sk ?_
    refine fw_th ?_
    refine fw_sq ?_
    refine fw_bk ?_
    have hkL : k < PL.length := by have h := of_decide_eq_true hb_4; omega
    obtain ⟨gp, hap⟩ := own_ptr (Owns.get fW1_0 (i := 3) rfl) (show 0 < PL.length by omega)
    obtain ⟨⟨r, vp⟩, hPi⟩ : ∃ x, PL[k]? = some x := ⟨_, List.getElem?_eq_getElem hkL⟩
    have hqi : (PL.map fun (p : Rq × Value) => p.1.row p.2)[k]? = some (r.row vp) := by rw [List.getElem?_map, hPi]; rfl
    have hL4 : ∀ x ∈ PL.map fun (p : Rq × Value) => p.1.row p.2, x.length = 4 := fun x hx => by obtain ⟨p, -, rfl⟩ := List.mem_map.1 hx; rfl
    refine fw_rg rfl ?_
    iterate 4 refine fw_pu rfl ?_
    refine fw_ld rW1_0 rfl rfl ?_
    refine fw_pu rfl ?_
    refine fw_ex 20 (.pointer (some ⟨gp, (k * 4), none⟩)) rfl rfl rfl (fun a h => (run_indexOp (h.ev rfl) (h.ev rfl) (by rw [hap]; exact ridxR _ _ _ _ hkL _))) ?_
    refine fw_pu rfl ?_
    refine fw_ex 22 (.int .i64 r.id) rfl rfl rfl (fun a h => (run_loadOp (h.ev rfl) (ldI1k ((own_rowD (by have h0 := Owns.get fW1_0 (i := 3) rfl; rw [hap] at h0; exact h0)).cell (j := k * 4) (by have h1 := flat_at (k := 4) (j := 0) hL4 hqi rfl; rwa [Nat.add_zero] at h1))))) ?_
    refine fw_al (t := 3) (u := fun q => .slice (some ⟨q, 0, none⟩) 1 1) 23 (rwI r.id) rfl rfl rfl (fun a h => (bs1In r.id _ (h.ev rfl))) ?_
    intro q5 W6 g9 s7 r8
    have := Nat.le_trans bW1.size g9
    have := rW1_0.lt g9
    have b10 := bW1.trans (s7.mono bW1.size)
    have r11 := rW1_0.below s7
    have f12 := (Owns.below fW1_0 s7)
    have f13 := (InOwn.below hin0 s7)
    have how15 := f13
    refine fw_to 24 rfl rfl rfl (fun a h => (In_app _ _ rfl (h.ev rfl) how15 (h.ev rfl) r8 (by simp; omega) b10.size)) ?_
    rintro vx15 V14 ⟨hgr15, hog15⟩
    obtain ⟨ax15, cx15, rfl⟩ := own_slice hog15
    have b16 := (b10.trans (grew_low hgr15 b10.size (fun k hk => (blk_lt how15 hk).1)))
    have r17 := hrB.below b16
    have f18 := Owns.below hoB b16
    refine fw_pu rfl ?_
    refine fw_dn ?_
    refine fw_bn ?_
    refine fw_th ?_
    refine fw_rg rfl ?_
    refine fw_pu rfl ?_
    refine fw_ex 13 (.int .i64 (((k + 1) : Nat) : Int)) rfl rfl rfl (fun a h => (run_binOp (h.ev rfl) (h.ev rfl) (by simp [go_sem]) (addIw _ _ _ _ (by omega) (by omega) (by omega)))) ?_
    refine fw_pu rfl ?_
    refine fw_dn ?_
    have htn : ((PL.map fun (p : Rq × Value) => p.1.id).take k) ++ [r.id] = (PL.map fun (p : Rq × Value) => p.1.id).take (k + 1) := by rw [List.take_add_one, List.getElem?_map, hPi]; rfl
    have hzn : InOwn V14 w.heap.size (.slice ax15 ((PL.map fun (p : Rq × Value) => p.1.id).take (k + 1)).length cx15) ((PL.map fun (p : Rq × Value) => p.1.id).take (k + 1)) := by rw [← htn]; exact hog15
    have hslE : (((PL.map fun (p : Rq × Value) => p.1.id).take k) ++ [r.id]).length = ((PL.map fun (p : Rq × Value) => p.1.id).take (k + 1)).length := by rw [htn]
    exact fw_th (fw_gf (hK3 _ _ _ (by omega) ⟨(k + 1), ax15, cx15, rfl, hkL, hzn, rfl, b16, r17, f18⟩) ⟨rfl, (by simp only [Look, cond, Nat.beq]; first | rfl | rw [hslE] | simp), (by first | rfl | (simp only [Look, cond, Nat.beq]; first | rfl | (congr 2; first | rfl | omega | (push_cast; omega)) | (simp; try omega))), trivial⟩)
  refine fw_cF rfl hb_4 ?_
  refine fw_xt ?_
  refine fw_te ?_
  refine fw_te ?_
  refine fw_be ?_
  refine fw_th ?_
  refine fw_sq ?_
  refine fw_rg rfl ?_
  iterate 2 refine fw_pu rfl ?_
  refine fw_dt ?_
  refine fw_rt ?_
  refine ⟨fun a h => ?_⟩
  have hke : k = PL.length := by have h := of_decide_eq_false hb_4; omega
  have he : ((PL.map fun (p : Rq × Value) => p.1.id).take k) = d.ps.map (·.id) := by rw [hke, List.take_of_length_le (by simp), ← hps, List.map_map]; rfl
  have h0 := hin0
  rw [he] at h0
  have hl0 := he
  exact ow_ret1 rfl h.df (h.g 2 rfl) ⟨_, rfl, bW1, by rw [he]; exact h0⟩
abbrev orU (v : Value) (l : List UInt8) : OR := ⟨5, 1, v, l.length, l.map B8⟩
abbrev orY (v : Value) (l : List Bool) : OR := ⟨4, 1, v, l.length, l.map Value.bool⟩
abbrev orQ (v : Value) (L : List (Rq × Value)) : OR := ⟨140, 4, v, L.length, (L.map fun p => p.1.row p.2).flatten⟩
abbrev bufR (p : Rq × Value) : OR := orU p.2 p.1.b
section
variable {B : Nat} {H : List Nat} {R : List OR} {W W' : World} {PL : List (Rq × Value)} {r : Rq} {v va vp vd vn vy : Value} {i : Nat}
theorem Owns.updR {r r' : OR} (h : Owns B H R W) (i : Nat) (hi : R[i]? = some r) (hg : Grew W W' r.v r'.v) (hn : r'.At B W') : Owns B H (R.set i r') W' :=
  h.set i hi hg.1 hn (fun k hk => hg.2.elim (fun e => .inl (e.symm.trans hk)) fun ⟨k2, e, hl⟩ => .inr (by have hk2 := hk; rw [e] at hk2; injection hk2; omega))
theorem Owns.cons0 (r : OR) (h : Owns B H R W) (h0 : r.v.ownBlock = none) (hr : r.At B W) : Owns B H (r :: R) W := by
  refine ⟨fun x hx => ?_, List.pairwise_cons.2 ⟨fun b _ k hk => ?_, h.two⟩, fun k hk => ⟨(h.held k hk).1, fun x hx e => ?_⟩⟩
  · rcases List.mem_cons.1 hx with rfl | hx
    · exact hr
    · exact h.at_ x hx
  · rw [h0] at hk; cases hk
  · rcases List.mem_cons.1 hx with rfl | hx
    · rw [h0] at e; cases e
    · exact (h.held k hk).2 x hx e
theorem Owns.cons1 (r : OR) (h : Owns B H R W) (hb : Below W.heap.size W W') (hn : r.At W.heap.size W') (hB : B ≤ W.heap.size) : Owns B H (r :: R) W' :=
  (h.add hb hn hB).perm (List.perm_append_comm (l₁ := R) (l₂ := [r]))
theorem bufs_at {a b c e : OR} (hi : PL[i]? = some (r, v)) : (a :: b :: c :: e :: PL.map bufR)[4 + i]? = some (orU v r.b) := by
  rw [show 4 + i = i + 1 + 1 + 1 + 1 by omega]
  simp [hi]
theorem bufs_at5 {x a b c e : OR} (hi : PL[i]? = some (r, v)) : (x :: a :: b :: c :: e :: PL.map bufR)[5 + i]? = some (orU v r.b) := by
  rw [show 5 + i = i + 1 + 1 + 1 + 1 + 1 by omega]
  simp [hi]
/-- The list that was built takes the old one's place. -/
theorem Owns.swapQ {a b c : OR} (h : Owns B H (orQ v (PL.eraseIdx i) :: a :: b :: c :: orQ vp PL :: PL.map bufR) W) (hi : PL[i]? = some (r, va)) :
    Owns B H (a :: b :: c :: orQ v (PL.eraseIdx i) :: orU va r.b :: (PL.eraseIdx i).map bufR) W := by
  obtain ⟨hl, he⟩ := List.getElem?_eq_some_iff.1 hi
  have h1 : Owns B H (orQ v (PL.eraseIdx i) :: a :: b :: c :: PL.map bufR) W := h.sub (.cons_cons _ (.cons_cons _ (.cons_cons _ (.cons_cons _ (.cons _ (List.Sublist.refl _))))))
  have hp : (PL.map bufR).Perm (orU va r.b :: (PL.eraseIdx i).map bufR) := by
    have h2 : ∀ (L : List (Rq × Value)) (k : Nat) (hk : k < L.length), (L[k] :: L.eraseIdx k).Perm L := by
      intro L
      induction L with
      | nil => intro k hk; simp at hk
      | cons x L ih =>
        intro k hk
        cases k with
        | zero => exact .refl _
        | succ k =>
          rw [List.eraseIdx_cons_succ, List.getElem_cons_succ]
          exact (List.Perm.swap _ _ _).trans ((ih k (by simpa using hk)).cons x)
    have h3 := ((h2 PL i hl).map bufR).symm
    rw [he] at h3
    exact h3
  refine h1.perm ?_
  refine (List.Perm.trans ?_ ((((hp.cons (orQ v (PL.eraseIdx i))).cons c).cons b).cons a))
  exact (List.Perm.swap _ _ _).trans ((List.Perm.swap _ _ _).cons a |>.trans (((List.Perm.swap _ _ _).cons b).cons a))
end
/-- What was built behind j of them, but for the i-th. -/
def LK (PL : List (Rq × Value)) (i j : Nat) : List (Rq × Value) := (PL.take j).eraseIdx i
theorem LK_skip (PL : List (Rq × Value)) (i : Nat) (h : i < PL.length) : LK PL i (i + 1) = LK PL i i := by
  unfold LK
  rw [List.take_add_one, List.getElem?_eq_getElem h]
  show ((PL.take i) ++ [PL[i]]).eraseIdx i = (PL.take i).eraseIdx i
  rw [List.eraseIdx_append_of_length_le (by rw [List.length_take]; omega), List.length_take, show i - min i PL.length = 0 by omega]
  rw [show ([PL[i]] : List (Rq × Value)).eraseIdx 0 = [] from rfl, List.append_nil, List.eraseIdx_of_length_le (by rw [List.length_take]; omega)]
theorem LK_next {PL : List (Rq × Value)} {i j : Nat} {x : Rq × Value} (hx : PL[j]? = some x) (hj : j ≠ i) : LK PL i (j + 1) = LK PL i j ++ [x] := by
  have hl := (List.getElem?_eq_some_iff.1 hx).1
  unfold LK
  rw [List.take_add_one, hx]
  show ((PL.take j) ++ [x]).eraseIdx i = _
  by_cases h : i < j
  · rw [List.eraseIdx_append_of_lt_length (by rw [List.length_take]; omega)]
  · rw [List.eraseIdx_append_of_length_le (by rw [List.length_take]; omega), List.length_take, List.eraseIdx_of_length_le (l := [x]) (by simp; omega), List.eraseIdx_of_length_le (by rw [List.length_take]; omega)]
theorem LK_all (PL : List (Rq × Value)) (i : Nat) : LK PL i PL.length = PL.eraseIdx i := by unfold LK; rw [List.take_length]
/-! what is completed -/
def rperfD (d : ED) (r : Rq) : ED :=
  if r.k = 0 then d else if r.k = 1 then { d with now := splice d.now (r.n.toNat * 64) r.b, dy := d.dy.set r.n.toNat true } else { d with dur := d.now, dy := List.replicate d.dy.length false }
def rperfB (d : ED) (r : Rq) : List UInt8 := if r.k = 0 then secD d.now r.n.toNat else []
def rcompD (d : ED) (n : Int) : ED := if compE d n = 0 then rperfD { powD d with ps := d.ps.eraseIdx n.toNat } (compR d n) else powD d
def rcompB (d : ED) (n : Int) : List UInt8 := if compE d n = 0 then rperfB { powD d with ps := d.ps.eraseIdx n.toNat } (compR d n) else []
structure rqR (d : ED) (r : Rq) : Prop where
  n : r.k = 0 ∨ r.k = 1 → 0 ≤ r.n ∧ r.n < ((d.dy.length : Nat) : Int)
  b : r.k = 1 → r.b.length = 64
end Go.Proofs.Ytcglmkcefenjcaa
