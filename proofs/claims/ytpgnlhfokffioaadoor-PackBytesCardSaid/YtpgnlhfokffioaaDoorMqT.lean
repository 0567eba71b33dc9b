/-
  What is wanted of a kind of packets, for the law of its kind.
  How much a packet weighs: of what is not too heavy nothing is long.
  Packets: a copy of a packet in new memory; its lists made longer.
-/
import Derived.Test.YtpgnlhfokffioaaDoorMqR
import Derived.Test.YtpgnlhfokffioaaDoorOw2
namespace Go.Proofs.YtpgnlhfokffioaaDoor
open Go.RowKit
theorem eqB_refl (m : Mq) : m.eqB m = true := by simp [Mq.eqB]
/-- Nothing of a packet is long. -/
structure Mq.Near (B : Nat) (m : Mq) : Prop where
  cl : m.cl.size ≤ B
  wT : m.wT.size ≤ B
  wP : m.wP.size ≤ B
  us : m.us.size ≤ B
  pa : m.pa.size ≤ B
  cs : m.cs.length ≤ B
  top : m.top.size ≤ B
  pay : m.pay.size ≤ B
  ws : m.ws.length ≤ B
  fs : m.fs.length ≤ B
  wsf : ∀ s ∈ m.ws, s.f.size ≤ B
  fsf : ∀ s ∈ m.fs, s.size ≤ B
theorem Mq.Near.mono {B B' : Nat} {m : Mq} (h : m.Near B) (hb : B ≤ B') : m.Near B' :=
  ⟨Nat.le_trans h.cl hb, Nat.le_trans h.wT hb, Nat.le_trans h.wP hb, Nat.le_trans h.us hb, Nat.le_trans h.pa hb, Nat.le_trans h.cs hb, Nat.le_trans h.top hb, Nat.le_trans h.pay hb, Nat.le_trans h.ws hb, Nat.le_trans h.fs hb,
    fun s hs => Nat.le_trans (h.wsf s hs) hb, fun s hs => Nat.le_trans (h.fsf s hs) hb⟩
/-- The first byte turned. -/
def flipB (l : List UInt8) (j : UInt8) : List UInt8 := match l with
  | [] => []
  | x :: t => (x ^^^ j) :: t
/-- A kind of packets: whether one may be, its bytes, as the code and as the reference have them. -/
structure KindOK (k : Int) (mayB : Mq → Bool) (enc : Mq → List UInt8) : Prop where
  len : ∀ m, mayB m = true → m.k = k → 2 ≤ (enc m).length ∧ (enc m).length ≤ 100000
  head : ∀ m x l, mayB m = true → m.k = k → enc m = x :: l → (x.toNat : Int) / 16 = k
  bytes : ∀ (m : Mq) vc vw vf w, m.k = k → m.Near 4000 → m.Lists w vc vw vf → Calls Tryd.prog 24 #[m.val vc vw vf] w fun e w' => ∃ v, e = .returned (.tuple #[v, .int .i64 (if mayB m = true then 0 else 1)]) ∧ Below w.heap.size w w' ∧ (mayB m = true → Sl w' v (enc m))
  check : ∀ (m : Mq) vc vw vf w, m.k = k → m.Near 4000 → m.Lists w vc vw vf → Calls Tryd.prog 26 #[m.val vc vw vf] w fun e w' => e = .returned (.int .i64 (if mayB m = true then 0 else 1)) ∧ Below w.heap.size w w'
  may : ∀ (m : Mq) vc vw vf w, m.k = k → m.Near 4000 → m.Lists w vc vw vf → Calls Tryd.prog 25 #[m.val vc vw vf] w fun e w' => e = .returned (.bool (mayB m)) ∧ Below w.heap.size w w'
  rbytes : ∀ (m : Mq) vc vw vf w, m.k = k → m.Near 4000 → mayB m = true → m.Lists w vc vw vf → Calls Tryd.prog 27 #[m.val vc vw vf] w fun e w' => ∃ v, e = .returned v ∧ Below w.heap.size w w' ∧ Sl w' v (enc m)
  parse : ∀ (m : Mq) v w, m.k = k → m.Near 4000 → mayB m = true → Sl w v (enc m) → Calls Tryd.prog 16 #[v] w fun e w' => ∃ vc vw vf, e = .returned (.tuple #[m.val vc vw vf, .int .i64 ((enc m).length : Int), .int .i64 0]) ∧ Below w.heap.size w w' ∧ m.Lists w' vc vw vf
  flip : ∀ (m : Mq) (j : UInt8), m.k = k → m.Near 4000 → mayB m = true → 0 < j.toNat → j.toNat < 16 → ∃ ev : Int,
    (∀ v w, Sl w v (flipB (enc m) j) → Calls Tryd.prog 16 #[v] w fun e w' => ∃ (m2 : Mq) (ac aw af : Option Addr) (nc nw nf cc cw cf : Nat) (n : Int), e = .returned (.tuple #[m2.val (.slice ac nc cc) (.slice aw nw cw) (.slice af nf cf), .int .i64 n, .int .i64 ev]) ∧ Below w.heap.size w w') ∧
    (∀ v w, Sl w v (flipB (enc m) j) → Calls Tryd.prog 17 #[v] w fun e w' => ∃ (m2 : Mq) (ac aw af : Option Addr) (nc nw nf cc cw cf : Nat) (n : Int), e = .returned (.tuple #[m2.val (.slice ac nc cc) (.slice aw nw cw) (.slice af nf cf), .int .i64 n, .int .i64 ev]) ∧ Below w.heap.size w w')
theorem addI (x y : Int) (w : World) (h1 : -9223372036854775808 ≤ x + y) (h2 : x + y < 9223372036854775808) : (binOp .add 3 (.int .i64 x) (.int .i64 y)).run Tryd.prog w = .ok (.int .i64 (x + y)) w := by
  have := wrap_i64 (x + y) h1 h2
  simp [go_sem, this]
set_option maxRecDepth 100000 in
set_option maxHeartbeats 1000000 in
theorem textW_any (v : Value) (l : List ByteArray) (w : World) (hl : l.length ≤ far) (hb : ∀ s ∈ l, s.size ≤ far) (hv : SlR w 1 v (l.map cs1)) :
    Calls Tryd.prog 66 #[v] w fun e w' => ∃ n : Nat, e = .returned (.int .i64 (n : Int)) ∧ l.length ≤ n ∧ n ≤ 281474976710656 ∧ (n ≤ 3000 → ∀ s ∈ l, s.size ≤ n) ∧ w = w' := by
  obtain ⟨ao, cap, rfl, hcl, hcm, -, hB⟩ := hv
  simp only [List.length_map] at hB hcl ⊢
  have HB := Lib.hid hB; clear hB
  have HL := Lib.hid hb; clear hb
  have hl' : l.length ≤ 140737488351232 := hl
  clear hl hcl hcm
  go_enter Tryd.func66, Tryd.ntmps66
  go_wp2
  go_loop [3, 4] (fun m i => ∃ (k n : Nat), k ≤ l.length ∧ i = .int .i64 k ∧ m = .int .i64 n ∧ l.length ≤ n ∧ n ≤ 281474976710656 ∧ (∀ s ∈ l.take k, s.size ≤ n)) (fun _ i => l.length - (intOf i).toNat)
  case atStart => exact ⟨0, l.length, by omega, rfl, rfl, Nat.le_refl _, by omega, by simp⟩
  case round =>
    obtain ⟨k, n, hk, rfl, rfl, hn1, hn2, hs⟩ := hrel
    have HS := Lib.hid hs; clear hs
    by_cases hlt : k < l.length
    · have hlt' : (k : Int) < (l.length : Int) := by omega
      by_cases hn : (n : Int) < 1048576
      · obtain ⟨b, off, rfl, hbw, hBB⟩ := HB.out (by intro h; simp at h; simp [h] at hlt)
        obtain ⟨x, hx⟩ : ∃ x, l[k]? = some x := ⟨_, List.getElem?_eq_getElem hlt⟩
        have hcx : w.cell? ⟨b, off + k, none⟩ = some (.string x) := by
          have := hBB k (cs1 x) (by rw [List.getElem?_map, hx]; rfl) 0 _ rfl
          simpa using this
        have hxm : x.size ≤ 140737488351232 := HL.out x (List.mem_of_getElem? hx)
        have HX := Lib.hid hx; clear hx hBB
        go_wp2
        go_round
        case rel =>
          refine ⟨k + 1, n + x.size, by omega, by go_num, ?_, by omega, by omega, ?_⟩
          · first | rfl | (congr 1; done) | (congr 1; rw [wrap_i64 _ (by omega) (by omega)]; try omega)
          · intro s hs
            rw [List.take_add_one, HX.out] at hs
            rcases List.mem_append.1 hs with h | h
            · have := HS.out s h; omega
            · obtain rfl : s = x := by simpa using h
              omega
        case measure => simp [intOf]; omega
      · have HN := Lib.hid (show ¬ n ≤ 3000 by omega)
        go_wp2
        go_ret
        exact ⟨n, rfl, hn1, hn2, fun h => (HN.out h).elim, rfl⟩
    · have hlt' : ¬ (k : Int) < (l.length : Int) := by omega
      have HT := Lib.hid (show l.take k = l from List.take_of_length_le (by omega))
      clear HB
      go_wp2
      go_ret
      exact ⟨n, rfl, hn1, hn2, fun _ s hs => HS.out s (by rw [HT.out]; exact hs), rfl⟩
set_option maxRecDepth 100000 in
set_option maxHeartbeats 1000000 in
theorem wishesW_any (v : Value) (l : List EWish) (w : World) (hl : l.length ≤ far) (hb : ∀ s ∈ l, s.f.size ≤ far) (hv : SlR w 2 v (l.map rowWish)) :
    Calls Tryd.prog 65 #[v] w fun e w' => ∃ n : Nat, e = .returned (.int .i64 (n : Int)) ∧ l.length ≤ n ∧ n ≤ 281474976710656 ∧ (n ≤ 3000 → ∀ s ∈ l, s.f.size ≤ n) ∧ w = w' := by
  obtain ⟨ao, cap, rfl, hcl, hcm, -, hB⟩ := hv
  simp only [List.length_map] at hB hcl ⊢
  have HB := Lib.hid hB; clear hB
  have HL := Lib.hid hb; clear hb
  have hl' : l.length ≤ 140737488351232 := hl
  clear hl hcl hcm
  go_enter Tryd.func65, Tryd.ntmps65
  go_wp2
  go_loop [3, 4] (fun m i => ∃ (k n : Nat), k ≤ l.length ∧ i = .int .i64 k ∧ m = .int .i64 n ∧ l.length ≤ n ∧ n ≤ 281474976710656 ∧ (∀ s ∈ l.take k, s.f.size ≤ n)) (fun _ i => l.length - (intOf i).toNat)
  case atStart => exact ⟨0, l.length, by omega, rfl, rfl, Nat.le_refl _, by omega, by simp⟩
  case round =>
    obtain ⟨k, n, hk, rfl, rfl, hn1, hn2, hs⟩ := hrel
    have HS := Lib.hid hs; clear hs
    by_cases hlt : k < l.length
    · have hlt' : (k : Int) < (l.length : Int) := by omega
      by_cases hn : (n : Int) < 1048576
      · obtain ⟨b, off, rfl, hbw, hBB⟩ := HB.out (by intro h; simp at h; simp [h] at hlt)
        obtain ⟨x, hx⟩ : ∃ x, l[k]? = some x := ⟨_, List.getElem?_eq_getElem hlt⟩
        have hcx : w.cell? ⟨b, off + k * 2, none⟩ = some (.string x.f) := by
          have := hBB k (rowWish x) (by rw [List.getElem?_map, hx]; rfl) 0 _ rfl
          simpa using this
        have hxm : x.f.size ≤ 140737488351232 := HL.out x (List.mem_of_getElem? hx)
        have HX := Lib.hid hx; clear hx hBB
        go_wp2
        go_round
        case rel =>
          refine ⟨k + 1, n + x.f.size, by omega, by go_num, ?_, by omega, by omega, ?_⟩
          · first | rfl | (congr 1; done) | (congr 1; rw [wrap_i64 _ (by omega) (by omega)]; try omega)
          · intro s hs
            rw [List.take_add_one, HX.out] at hs
            rcases List.mem_append.1 hs with h | h
            · have := HS.out s h; omega
            · obtain rfl : s = x := by simpa using h
              omega
        case measure => simp [intOf]; omega
      · have HN := Lib.hid (show ¬ n ≤ 3000 by omega)
        go_wp2
        go_ret
        exact ⟨n, rfl, hn1, hn2, fun h => (HN.out h).elim, rfl⟩
    · have hlt' : ¬ (k : Int) < (l.length : Int) := by omega
      have HT := Lib.hid (show l.take k = l from List.take_of_length_le (by omega))
      clear HB
      go_wp2
      go_ret
      exact ⟨n, rfl, hn1, hn2, fun _ s hs => HS.out s (by rw [HT.out]; exact hs), rfl⟩
set_option maxRecDepth 100000 in
set_option maxHeartbeats 4000000 in
theorem mqWeight_any (m : Mq) (vc vw vf : Value) (w : World) (hF : m.Far) (hL : m.Lists w vc vw vf) :
    Calls Tryd.prog 35 #[m.val vc vw vf] w fun e w' => ∃ n : Int, e = .returned (.int .i64 n) ∧ Below w.heap.size w w' ∧ 0 ≤ n ∧ (n ≤ 3000 → m.Near 3000) := by
  have hb0 := Below.refl w.heap.size w
  obtain ⟨ac, cc, rfl, -, -, -, -⟩ := id hL.c
  obtain ⟨aw, cw, rfl, -, -, -, -⟩ := id hL.w
  obtain ⟨af, cf, rfl, -, -, -, -⟩ := id hL.f
  obtain ⟨b1, b2, b3, b4, b5, b6, b7, b8, b9, b10, b11, b12⟩ := id hF
  obtain ⟨nc, hnc⟩ : ∃ n, n = (m.cs.map cn).length := ⟨_, rfl⟩
  obtain ⟨nw, hnw⟩ : ∃ n, n = (m.ws.map rowWish).length := ⟨_, rfl⟩
  obtain ⟨nf, hnf⟩ : ∃ n, n = (m.fs.map cs1).length := ⟨_, rfl⟩
  rw [← hnc, ← hnw, ← hnf] at hL ⊢
  have hnc' : nc = m.cs.length := by rw [hnc, List.length_map]
  have Cw : ∀ W, Below w.heap.size w W → Calls Tryd.prog 65 #[.slice aw nw cw] W fun e X => ∃ v, e = .returned v ∧ ∃ n : Nat, v = .int .i64 (n : Int) ∧ m.ws.length ≤ n ∧ n ≤ 281474976710656 ∧ (n ≤ 3000 → ∀ s ∈ m.ws, s.f.size ≤ n) ∧ W = X :=
    fun W hb => (wishesW_any _ m.ws W b9 b11 (hL.below hb).w).mono fun e X ⟨n, he, h⟩ => ⟨_, he, n, rfl, h⟩
  have Cf : ∀ W, Below w.heap.size w W → Calls Tryd.prog 66 #[.slice af nf cf] W fun e X => ∃ v, e = .returned v ∧ ∃ n : Nat, v = .int .i64 (n : Int) ∧ m.fs.length ≤ n ∧ n ≤ 281474976710656 ∧ (n ≤ 3000 → ∀ s ∈ m.fs, s.size ≤ n) ∧ W = X :=
    fun W hb => (textW_any _ m.fs W b10 b12 (hL.below hb).f).mono fun e X ⟨n, he, h⟩ => ⟨_, he, n, rfl, h⟩
  have hnc6 : nc ≤ far := by rw [hnc']; exact b6
  simp only [far] at b1 b2 b3 b4 b5 hnc6 b7 b8
  have HF : ∀ zw zf : Nat, m.ws.length ≤ zw → m.fs.length ≤ zf → (zw ≤ 3000 → ∀ s ∈ m.ws, s.f.size ≤ zw) → (zf ≤ 3000 → ∀ s ∈ m.fs, s.size ≤ zf) → ((((((((((m.cl.size : Int) + (m.wT.size : Int)) + (m.wP.size : Int)) + (m.us.size : Int)) + (m.pa.size : Int)) + ((nc : Nat) : Int)) + (m.top.size : Int)) + (m.pay.size : Int)) + (zw : Int)) + (zf : Int)) ≤ 3000 → m.Near 3000 := by
    intro zw zf h1 h2 h3 h4 h5
    exact ⟨by omega, by omega, by omega, by omega, by omega, by omega, by omega, by omega, by omega, by omega, fun s hs => Nat.le_trans (h3 (by omega) s hs) (by omega), fun s hs => Nat.le_trans (h4 (by omega) s hs) (by omega)⟩
  have HF := Lib.hid HF
  clear hnc hnw hnf b6 b9 b10 b11 b12
  refine ow_enter 44 Tryd.func35 rfl Tryd.ntmps35 (by simp) ?_
  rintro a hsz hdf hargs
  have s_0 : a.tmps[0]? = some (.agg (Mq.row m (.slice ac nc cc) (.slice aw nw cw) (.slice af nf cf)).toArray) := hargs 0 _ rfl
  clear hargs
  refine wp_seq ?_
  refine ow_region [_, _] rfl (by intro o ho; simp only [List.mem_cons, List.not_mem_nil, or_false] at ho; rcases ho with rfl | rfl <;> rfl) ?_
  obtain ⟨q1, hq1⟩ : ∃ x, x = w.heap.size := ⟨_, rfl⟩
  refine ow_run 1 (.pointer (some ⟨q1, 0, none⟩)) (w.alloc (.cells #[.int .i64 m.k, .string m.cl, .bool m.clean, .int .i64 m.keep, .bool m.wI, .string m.wT, .string m.wP, .int .i64 m.wQ, .bool m.wR, .string m.us, .bool m.hu, .string m.pa, .bool m.hp, .bool m.pres, .int .i64 m.code, .slice ac nc cc, .bool m.dup, .int .i64 m.q, .bool m.re, .string m.top, .int .i64 m.id, .string m.pay, .slice aw nw cw, .slice af nf cf] 30)) rfl (by rw [hq1]; exact (run_boxOp (eval_of s_0) (by simp [go_sem, Instr.box]))) ?_
  have hqq1 : w.heap.size ≤ q1 := by rw [hq1]; exact hb0.size
  refine fresh (C := fun x W => wpRun _ _ x W _) (fun x X => _ = x ∧ Below w.heap.size w X ∧ RowAt X q1 (Mq.row m (.slice ac nc cc) (.slice aw nw cw) (.slice af nf cf))) ⟨rfl, (hb0.alloc hb0.size _), (by rw [hq1]; exact rowAt_alloc _ [.int .i64 m.k, .string m.cl, .bool m.clean, .int .i64 m.keep, .bool m.wI, .string m.wT, .string m.wP, .int .i64 m.wQ, .bool m.wR, .string m.us, .bool m.hu, .string m.pa, .bool m.hp, .bool m.pres, .int .i64 m.code, .slice ac nc cc, .bool m.dup, .int .i64 m.q, .bool m.re, .string m.top, .int .i64 m.id, .string m.pay, .slice aw nw cw, .slice af nf cf] _)⟩ ?_
  rintro _ W2 ⟨rfl, hbW2, rW2_0⟩
  clear hq1
  refine ow_run 2 (.int .i64 0) _ rfl (run_assignOp (eval_cst _ _)) ?_
  refine fresh (C := fun x W => wpRun _ [] x W _) (fun x X => _ = X ∧ x.tmps.size = 44 ∧ x.defers = [] ∧ x.tmps[1]? = some (.pointer (some ⟨q1, 0, none⟩))) ⟨rfl, (by simp only [put_size]; exact hsz), (by simp only [put_defers]; exact hdf), (pf1 (by decide) (put_get _ _ _ (by rw [hsz]; decide)))⟩ ?_
  clear hsz hdf s_0
  rintro a _ ⟨rfl, hsz, hdf, s_1⟩
  refine ow_then ?_
  refine wp_seq ?_
  refine ah_region (fun W => Below w.heap.size w W ∧ RowAt W q1 (Mq.row m (.slice ac nc cc) (.slice aw nw cw) (.slice af nf cf))) (by kernel_rfl) 42 rfl ?_
  refine fresh (C := fun x W => AH _ _ _ _ _ _ x W) (fun x X => _ = x ∧ Below w.heap.size w X ∧ RowAt X q1 (Mq.row m (.slice ac nc cc) (.slice aw nw cw) (.slice af nf cf))) ⟨rfl, (hbW2.trans (((Below.refl _ W2).drew).mono hbW2.size)), (rW2_0.below ((Below.refl _ W2).drew))⟩ ?_
  rintro _ W4 ⟨rfl, hbW4, rW4_0⟩
  refine ah_takeW 0 3 (.pointer (some ⟨q1, 1, none⟩)) rfl (wanted_none rfl) rfl (by kernel_rfl) (by kernel_rfl) (by kernel_rfl) (fun _ _ _ h => h) ⟨hbW4, rW4_0⟩ (fun W hW => by (try obtain ⟨hbW4, rW4_0⟩ := hW); exact (run_fieldAddr (eval_of s_1) (by simp [go_sem, Instr.fieldAt]))) ?_
  refine ah_takeW 1 4 (.string m.cl) rfl (wanted_none rfl) rfl (by kernel_rfl) (by kernel_rfl) (by kernel_rfl) (fun _ _ _ h => h) ⟨hbW4, rW4_0⟩ (fun W hW => by (try obtain ⟨hbW4, rW4_0⟩ := hW); exact (run_loadOp (eval_of (put_get _ _ _ (by rw [hsz]; decide))) (by simp [go_sem, Instr.loadAt, rW4_0.cell (j := 1) rfl]))) ?_
  refine ah_takeW 2 5 (.int .i64 (m.cl.size : Int)) rfl (wanted_none rfl) rfl (by kernel_rfl) (by kernel_rfl) (by kernel_rfl) (fun _ _ _ h => h) ⟨hbW4, rW4_0⟩ (fun W hW => by (try obtain ⟨hbW4, rW4_0⟩ := hW); exact (run_lenStr Tryd.underlying9 (eval_of (put_get _ _ _ (by simp only [put_size]; rw [hsz]; decide))))) ?_
  refine ah_takeW 3 6 (.pointer (some ⟨q1, 4, none⟩)) rfl (wanted_none rfl) rfl (by kernel_rfl) (by kernel_rfl) (by kernel_rfl) (fun _ _ _ h => h) ⟨hbW4, rW4_0⟩ (fun W hW => by (try obtain ⟨hbW4, rW4_0⟩ := hW); exact (run_fieldAddr (eval_of (pf1 (by decide) (pf2 (by decide) s_1))) (by simp [go_sem, Instr.fieldAt]))) ?_
  refine ah_takeW 4 7 (.pointer (some ⟨q1, 5, none⟩)) rfl (wanted_none rfl) rfl (by kernel_rfl) (by kernel_rfl) (by kernel_rfl) (fun _ _ _ h => h) ⟨hbW4, rW4_0⟩ (fun W hW => by (try obtain ⟨hbW4, rW4_0⟩ := hW); exact (run_fieldAddr (eval_of (put_get _ _ _ (by simp only [put_size]; rw [hsz]; decide))) (by simp [go_sem, Instr.fieldAt]))) ?_
  refine ah_takeW 5 8 (.string m.wT) rfl (wanted_none rfl) rfl (by kernel_rfl) (by kernel_rfl) (by kernel_rfl) (fun _ _ _ h => h) ⟨hbW4, rW4_0⟩ (fun W hW => by (try obtain ⟨hbW4, rW4_0⟩ := hW); exact (run_loadOp (eval_of (put_get _ _ _ (by simp only [put_size]; rw [hsz]; decide))) (by simp [go_sem, Instr.loadAt, rW4_0.cell (j := 5) rfl]))) ?_
  refine ah_takeW 6 9 (.int .i64 (m.wT.size : Int)) rfl (wanted_none rfl) rfl (by kernel_rfl) (by kernel_rfl) (by kernel_rfl) (fun _ _ _ h => h) ⟨hbW4, rW4_0⟩ (fun W hW => by (try obtain ⟨hbW4, rW4_0⟩ := hW); exact (run_lenStr Tryd.underlying9 (eval_of (put_get _ _ _ (by simp only [put_size]; rw [hsz]; decide))))) ?_
  refine ah_takeW 7 10 (.int .i64 ((m.cl.size : Int) + (m.wT.size : Int))) rfl (wanted_none rfl) rfl (by kernel_rfl) (by kernel_rfl) (by kernel_rfl) (fun _ _ _ h => h) ⟨hbW4, rW4_0⟩ (fun W hW => by (try obtain ⟨hbW4, rW4_0⟩ := hW); exact (run_binOp (eval_of (pf4 (by decide) (put_get _ _ _ (by simp only [put_size]; rw [hsz]; decide)))) (eval_of (put_get _ _ _ (by simp only [put_size]; rw [hsz]; decide))) (by simp [go_sem]) (addI _ _ _ (by omega) (by omega)))) ?_
  refine ah_takeW 8 11 (.pointer (some ⟨q1, 4, none⟩)) rfl (wanted_none rfl) rfl (by kernel_rfl) (by kernel_rfl) (by kernel_rfl) (fun _ _ _ h => h) ⟨hbW4, rW4_0⟩ (fun W hW => by (try obtain ⟨hbW4, rW4_0⟩ := hW); exact (run_fieldAddr (eval_of (pf8 (by decide) s_1)) (by simp [go_sem, Instr.fieldAt]))) ?_
  refine ah_takeW 9 12 (.pointer (some ⟨q1, 6, none⟩)) rfl (wanted_none rfl) rfl (by kernel_rfl) (by kernel_rfl) (by kernel_rfl) (fun _ _ _ h => h) ⟨hbW4, rW4_0⟩ (fun W hW => by (try obtain ⟨hbW4, rW4_0⟩ := hW); exact (run_fieldAddr (eval_of (put_get _ _ _ (by simp only [put_size]; rw [hsz]; decide))) (by simp [go_sem, Instr.fieldAt]))) ?_
  refine ah_takeW 10 13 (.string m.wP) rfl (wanted_none rfl) rfl (by kernel_rfl) (by kernel_rfl) (by kernel_rfl) (fun _ _ _ h => h) ⟨hbW4, rW4_0⟩ (fun W hW => by (try obtain ⟨hbW4, rW4_0⟩ := hW); exact (run_loadOp (eval_of (put_get _ _ _ (by simp only [put_size]; rw [hsz]; decide))) (by simp [go_sem, Instr.loadAt, rW4_0.cell (j := 6) rfl]))) ?_
  refine ah_takeW 11 14 (.int .i64 (m.wP.size : Int)) rfl (wanted_none rfl) rfl (by kernel_rfl) (by kernel_rfl) (by kernel_rfl) (fun _ _ _ h => h) ⟨hbW4, rW4_0⟩ (fun W hW => by (try obtain ⟨hbW4, rW4_0⟩ := hW); exact (run_lenStr Tryd.underlying9 (eval_of (put_get _ _ _ (by simp only [put_size]; rw [hsz]; decide))))) ?_
  refine ah_takeW 12 15 (.int .i64 (((m.cl.size : Int) + (m.wT.size : Int)) + (m.wP.size : Int))) rfl (wanted_none rfl) rfl (by kernel_rfl) (by kernel_rfl) (by kernel_rfl) (fun _ _ _ h => h) ⟨hbW4, rW4_0⟩ (fun W hW => by (try obtain ⟨hbW4, rW4_0⟩ := hW); exact (run_binOp (eval_of (pf4 (by decide) (put_get _ _ _ (by simp only [put_size]; rw [hsz]; decide)))) (eval_of (put_get _ _ _ (by simp only [put_size]; rw [hsz]; decide))) (by simp [go_sem]) (addI _ _ _ (by omega) (by omega)))) ?_
  refine ah_takeW 13 16 (.pointer (some ⟨q1, 9, none⟩)) rfl (wanted_none rfl) rfl (by kernel_rfl) (by kernel_rfl) (by kernel_rfl) (fun _ _ _ h => h) ⟨hbW4, rW4_0⟩ (fun W hW => by (try obtain ⟨hbW4, rW4_0⟩ := hW); exact (run_fieldAddr (eval_of (pf1 (by decide) (pf4 (by decide) (pf8 (by decide) s_1)))) (by simp [go_sem, Instr.fieldAt]))) ?_
  refine ah_takeW 14 17 (.string m.us) rfl (wanted_none rfl) rfl (by kernel_rfl) (by kernel_rfl) (by kernel_rfl) (fun _ _ _ h => h) ⟨hbW4, rW4_0⟩ (fun W hW => by (try obtain ⟨hbW4, rW4_0⟩ := hW); exact (run_loadOp (eval_of (put_get _ _ _ (by simp only [put_size]; rw [hsz]; decide))) (by simp [go_sem, Instr.loadAt, rW4_0.cell (j := 9) rfl]))) ?_
  refine ah_takeW 15 18 (.int .i64 (m.us.size : Int)) rfl (wanted_none rfl) rfl (by kernel_rfl) (by kernel_rfl) (by kernel_rfl) (fun _ _ _ h => h) ⟨hbW4, rW4_0⟩ (fun W hW => by (try obtain ⟨hbW4, rW4_0⟩ := hW); exact (run_lenStr Tryd.underlying9 (eval_of (put_get _ _ _ (by simp only [put_size]; rw [hsz]; decide))))) ?_
  refine ah_takeW 16 19 (.int .i64 ((((m.cl.size : Int) + (m.wT.size : Int)) + (m.wP.size : Int)) + (m.us.size : Int))) rfl (wanted_none rfl) rfl (by kernel_rfl) (by kernel_rfl) (by kernel_rfl) (fun _ _ _ h => h) ⟨hbW4, rW4_0⟩ (fun W hW => by (try obtain ⟨hbW4, rW4_0⟩ := hW); exact (run_binOp (eval_of (pf1 (by decide) (pf2 (by decide) (put_get _ _ _ (by simp only [put_size]; rw [hsz]; decide))))) (eval_of (put_get _ _ _ (by simp only [put_size]; rw [hsz]; decide))) (by simp [go_sem]) (addI _ _ _ (by omega) (by omega)))) ?_
  refine ah_takeW 17 20 (.pointer (some ⟨q1, 11, none⟩)) rfl (wanted_none rfl) rfl (by kernel_rfl) (by kernel_rfl) (by kernel_rfl) (fun _ _ _ h => h) ⟨hbW4, rW4_0⟩ (fun W hW => by (try obtain ⟨hbW4, rW4_0⟩ := hW); exact (run_fieldAddr (eval_of (pf1 (by decide) (pf16 (by decide) s_1))) (by simp [go_sem, Instr.fieldAt]))) ?_
  refine ah_takeW 18 21 (.string m.pa) rfl (wanted_none rfl) rfl (by kernel_rfl) (by kernel_rfl) (by kernel_rfl) (fun _ _ _ h => h) ⟨hbW4, rW4_0⟩ (fun W hW => by (try obtain ⟨hbW4, rW4_0⟩ := hW); exact (run_loadOp (eval_of (put_get _ _ _ (by simp only [put_size]; rw [hsz]; decide))) (by simp [go_sem, Instr.loadAt, rW4_0.cell (j := 11) rfl]))) ?_
  refine ah_takeW 19 22 (.int .i64 (m.pa.size : Int)) rfl (wanted_none rfl) rfl (by kernel_rfl) (by kernel_rfl) (by kernel_rfl) (fun _ _ _ h => h) ⟨hbW4, rW4_0⟩ (fun W hW => by (try obtain ⟨hbW4, rW4_0⟩ := hW); exact (run_lenStr Tryd.underlying9 (eval_of (put_get _ _ _ (by simp only [put_size]; rw [hsz]; decide))))) ?_
  refine ah_takeW 20 23 (.int .i64 (((((m.cl.size : Int) + (m.wT.size : Int)) + (m.wP.size : Int)) + (m.us.size : Int)) + (m.pa.size : Int))) rfl (wanted_none rfl) rfl (by kernel_rfl) (by kernel_rfl) (by kernel_rfl) (fun _ _ _ h => h) ⟨hbW4, rW4_0⟩ (fun W hW => by (try obtain ⟨hbW4, rW4_0⟩ := hW); exact (run_binOp (eval_of (pf1 (by decide) (pf2 (by decide) (put_get _ _ _ (by simp only [put_size]; rw [hsz]; decide))))) (eval_of (put_get _ _ _ (by simp only [put_size]; rw [hsz]; decide))) (by simp [go_sem]) (addI _ _ _ (by omega) (by omega)))) ?_
  refine ah_takeW 21 24 (.pointer (some ⟨q1, 15, none⟩)) rfl (wanted_none rfl) rfl (by kernel_rfl) (by kernel_rfl) (by kernel_rfl) (fun _ _ _ h => h) ⟨hbW4, rW4_0⟩ (fun W hW => by (try obtain ⟨hbW4, rW4_0⟩ := hW); exact (run_fieldAddr (eval_of (pf1 (by decide) (pf4 (by decide) (pf16 (by decide) s_1)))) (by simp [go_sem, Instr.fieldAt]))) ?_
  refine ah_takeW 22 25 (.slice ac nc cc) rfl (wanted_none rfl) rfl (by kernel_rfl) (by kernel_rfl) (by kernel_rfl) (fun _ _ _ h => h) ⟨hbW4, rW4_0⟩ (fun W hW => by (try obtain ⟨hbW4, rW4_0⟩ := hW); exact (run_loadOp (eval_of (put_get _ _ _ (by simp only [put_size]; rw [hsz]; decide))) (by simp [go_sem, Instr.loadAt, rW4_0.cell (j := 15) rfl]))) ?_
  refine ah_takeW 23 26 (.int .i64 ((nc : Nat) : Int)) rfl (wanted_none rfl) rfl (by kernel_rfl) (by kernel_rfl) (by kernel_rfl) (fun _ _ _ h => h) ⟨hbW4, rW4_0⟩ (fun W hW => by (try obtain ⟨hbW4, rW4_0⟩ := hW); exact (run_lenOp Tryd.underlying26 (eval_of (put_get _ _ _ (by simp only [put_size]; rw [hsz]; decide))))) ?_
  refine ah_takeW 24 27 (.int .i64 ((((((m.cl.size : Int) + (m.wT.size : Int)) + (m.wP.size : Int)) + (m.us.size : Int)) + (m.pa.size : Int)) + ((nc : Nat) : Int))) rfl (wanted_none rfl) rfl (by kernel_rfl) (by kernel_rfl) (by kernel_rfl) (fun _ _ _ h => h) ⟨hbW4, rW4_0⟩ (fun W hW => by (try obtain ⟨hbW4, rW4_0⟩ := hW); exact (run_binOp (eval_of (pf1 (by decide) (pf2 (by decide) (put_get _ _ _ (by simp only [put_size]; rw [hsz]; decide))))) (eval_of (put_get _ _ _ (by simp only [put_size]; rw [hsz]; decide))) (by simp [go_sem]) (addI _ _ _ (by omega) (by omega)))) ?_
  refine ah_takeW 25 28 (.pointer (some ⟨q1, 19, none⟩)) rfl (wanted_none rfl) rfl (by kernel_rfl) (by kernel_rfl) (by kernel_rfl) (fun _ _ _ h => h) ⟨hbW4, rW4_0⟩ (fun W hW => by (try obtain ⟨hbW4, rW4_0⟩ := hW); exact (run_fieldAddr (eval_of (pf1 (by decide) (pf8 (by decide) (pf16 (by decide) s_1)))) (by simp [go_sem, Instr.fieldAt]))) ?_
  refine ah_takeW 26 29 (.string m.top) rfl (wanted_none rfl) rfl (by kernel_rfl) (by kernel_rfl) (by kernel_rfl) (fun _ _ _ h => h) ⟨hbW4, rW4_0⟩ (fun W hW => by (try obtain ⟨hbW4, rW4_0⟩ := hW); exact (run_loadOp (eval_of (put_get _ _ _ (by simp only [put_size]; rw [hsz]; decide))) (by simp [go_sem, Instr.loadAt, rW4_0.cell (j := 19) rfl]))) ?_
  refine ah_takeW 27 30 (.int .i64 (m.top.size : Int)) rfl (wanted_none rfl) rfl (by kernel_rfl) (by kernel_rfl) (by kernel_rfl) (fun _ _ _ h => h) ⟨hbW4, rW4_0⟩ (fun W hW => by (try obtain ⟨hbW4, rW4_0⟩ := hW); exact (run_lenStr Tryd.underlying9 (eval_of (put_get _ _ _ (by simp only [put_size]; rw [hsz]; decide))))) ?_
  refine ah_takeW 28 31 (.int .i64 (((((((m.cl.size : Int) + (m.wT.size : Int)) + (m.wP.size : Int)) + (m.us.size : Int)) + (m.pa.size : Int)) + ((nc : Nat) : Int)) + (m.top.size : Int))) rfl (wanted_none rfl) rfl (by kernel_rfl) (by kernel_rfl) (by kernel_rfl) (fun _ _ _ h => h) ⟨hbW4, rW4_0⟩ (fun W hW => by (try obtain ⟨hbW4, rW4_0⟩ := hW); exact (run_binOp (eval_of (pf1 (by decide) (pf2 (by decide) (put_get _ _ _ (by simp only [put_size]; rw [hsz]; decide))))) (eval_of (put_get _ _ _ (by simp only [put_size]; rw [hsz]; decide))) (by simp [go_sem]) (addI _ _ _ (by omega) (by omega)))) ?_
  refine ah_takeW 29 32 (.pointer (some ⟨q1, 21, none⟩)) rfl (wanted_none rfl) rfl (by kernel_rfl) (by kernel_rfl) (by kernel_rfl) (fun _ _ _ h => h) ⟨hbW4, rW4_0⟩ (fun W hW => by (try obtain ⟨hbW4, rW4_0⟩ := hW); exact (run_fieldAddr (eval_of (pf1 (by decide) (pf4 (by decide) (pf8 (by decide) (pf16 (by decide) s_1))))) (by simp [go_sem, Instr.fieldAt]))) ?_
  refine ah_takeW 30 33 (.string m.pay) rfl (wanted_none rfl) rfl (by kernel_rfl) (by kernel_rfl) (by kernel_rfl) (fun _ _ _ h => h) ⟨hbW4, rW4_0⟩ (fun W hW => by (try obtain ⟨hbW4, rW4_0⟩ := hW); exact (run_loadOp (eval_of (put_get _ _ _ (by simp only [put_size]; rw [hsz]; decide))) (by simp [go_sem, Instr.loadAt, rW4_0.cell (j := 21) rfl]))) ?_
  refine ah_takeW 31 34 (.int .i64 (m.pay.size : Int)) rfl (wanted_none rfl) rfl (by kernel_rfl) (by kernel_rfl) (by kernel_rfl) (fun _ _ _ h => h) ⟨hbW4, rW4_0⟩ (fun W hW => by (try obtain ⟨hbW4, rW4_0⟩ := hW); exact (run_lenStr Tryd.underlying9 (eval_of (put_get _ _ _ (by simp only [put_size]; rw [hsz]; decide))))) ?_
  refine ah_takeW 32 35 (.int .i64 ((((((((m.cl.size : Int) + (m.wT.size : Int)) + (m.wP.size : Int)) + (m.us.size : Int)) + (m.pa.size : Int)) + ((nc : Nat) : Int)) + (m.top.size : Int)) + (m.pay.size : Int))) rfl (wanted_none rfl) rfl (by kernel_rfl) (by kernel_rfl) (by kernel_rfl) (fun _ _ _ h => h) ⟨hbW4, rW4_0⟩ (fun W hW => by (try obtain ⟨hbW4, rW4_0⟩ := hW); exact (run_binOp (eval_of (pf1 (by decide) (pf2 (by decide) (put_get _ _ _ (by simp only [put_size]; rw [hsz]; decide))))) (eval_of (put_get _ _ _ (by simp only [put_size]; rw [hsz]; decide))) (by simp [go_sem]) (addI _ _ _ (by omega) (by omega)))) ?_
  refine ah_takeW 33 36 (.pointer (some ⟨q1, 22, none⟩)) rfl (wanted_none rfl) rfl (by kernel_rfl) (by kernel_rfl) (by kernel_rfl) (fun _ _ _ h => h) ⟨hbW4, rW4_0⟩ (fun W hW => by (try obtain ⟨hbW4, rW4_0⟩ := hW); exact (run_fieldAddr (eval_of (pf1 (by decide) (pf16 (by decide) (pf16 (by decide) s_1)))) (by simp [go_sem, Instr.fieldAt]))) ?_
  refine ah_takeW 34 37 (.slice aw nw cw) rfl (wanted_none rfl) rfl (by kernel_rfl) (by kernel_rfl) (by kernel_rfl) (fun _ _ _ h => h) ⟨hbW4, rW4_0⟩ (fun W hW => by (try obtain ⟨hbW4, rW4_0⟩ := hW); exact (run_loadOp (eval_of (put_get _ _ _ (by simp only [put_size]; rw [hsz]; decide))) (by simp [go_sem, Instr.loadAt, rW4_0.cell (j := 22) rfl]))) ?_
  refine ah_takeW 37 40 (.pointer (some ⟨q1, 23, none⟩)) rfl (wanted_none rfl) rfl (by kernel_rfl) (by kernel_rfl) (by kernel_rfl) (fun _ _ _ h => h) ⟨hbW4, rW4_0⟩ (fun W hW => by (try obtain ⟨hbW4, rW4_0⟩ := hW); exact (run_fieldAddr (eval_of (pf1 (by decide) (pf2 (by decide) (pf16 (by decide) (pf16 (by decide) s_1))))) (by simp [go_sem, Instr.fieldAt]))) ?_
  refine ah_takeW 38 41 (.slice af nf cf) rfl (wanted_none rfl) rfl (by kernel_rfl) (by kernel_rfl) (by kernel_rfl) (fun _ _ _ h => h) ⟨hbW4, rW4_0⟩ (fun W hW => by (try obtain ⟨hbW4, rW4_0⟩ := hW); exact (run_loadOp (eval_of (put_get _ _ _ (by simp only [put_size]; rw [hsz]; decide))) (by simp [go_sem, Instr.loadAt, rW4_0.cell (j := 23) rfl]))) ?_
  refine ah_one 35 (by kernel_rfl) ?_
  refine ao_call rfl (wanted_none rfl) 38 (fun v X => ∃ n : Nat, v = .int .i64 (n : Int) ∧ m.ws.length ≤ n ∧ n ≤ 281474976710656 ∧ (n ≤ 3000 → ∀ s ∈ m.ws, s.f.size ≤ n) ∧ W4 = X) rfl _ _ (run_callOp Tryd.func65 rfl rfl (arr1 (eval_of (pf2 (by decide) (put_get _ _ _ (by simp only [put_size]; rw [hsz]; decide)))))) ((Cw _ hbW4)) ?_
  rintro _ _ ⟨zw, rfl, hzw0, hzw1, hzw2, rfl⟩
  refine ⟨⟨hbW4, rW4_0⟩, ?_⟩
  refine ah_takeW 36 39 (.int .i64 (((((((((m.cl.size : Int) + (m.wT.size : Int)) + (m.wP.size : Int)) + (m.us.size : Int)) + (m.pa.size : Int)) + ((nc : Nat) : Int)) + (m.top.size : Int)) + (m.pay.size : Int)) + (zw : Int))) rfl (wanted_none rfl) rfl (by kernel_rfl) (by kernel_rfl) (by kernel_rfl) (fun _ _ _ h => h) ⟨hbW4, rW4_0⟩ (fun W hW => by (try obtain ⟨hbW4, rW4_0⟩ := hW); exact (run_binOp (eval_of (pf1 (by decide) (pf4 (by decide) (put_get _ _ _ (by simp only [put_size]; rw [hsz]; decide))))) (eval_of (put_get _ _ _ (by simp only [put_size]; rw [hsz]; decide))) (by simp [go_sem]) (addI _ _ _ (by omega) (by omega)))) ?_
  refine ah_one 39 (by kernel_rfl) ?_
  refine ao_call rfl (wanted_none rfl) 42 (fun v X => ∃ n : Nat, v = .int .i64 (n : Int) ∧ m.fs.length ≤ n ∧ n ≤ 281474976710656 ∧ (n ≤ 3000 → ∀ s ∈ m.fs, s.size ≤ n) ∧ W4 = X) rfl _ _ (run_callOp Tryd.func66 rfl rfl (arr1 (eval_of (pf2 (by decide) (put_get _ _ _ (by simp only [put_size]; rw [hsz]; decide)))))) ((Cf _ hbW4)) ?_
  rintro _ _ ⟨zf, rfl, hzf0, hzf1, hzf2, rfl⟩
  refine ⟨⟨hbW4, rW4_0⟩, ?_⟩
  refine ah_takeW 40 43 (.int .i64 ((((((((((m.cl.size : Int) + (m.wT.size : Int)) + (m.wP.size : Int)) + (m.us.size : Int)) + (m.pa.size : Int)) + ((nc : Nat) : Int)) + (m.top.size : Int)) + (m.pay.size : Int)) + (zw : Int)) + (zf : Int))) rfl (wanted_none rfl) rfl (by kernel_rfl) (by kernel_rfl) (by kernel_rfl) (fun _ _ _ h => h) ⟨hbW4, rW4_0⟩ (fun W hW => by (try obtain ⟨hbW4, rW4_0⟩ := hW); exact (run_binOp (eval_of (pf1 (by decide) (put_get _ _ _ (by simp only [put_size]; rw [hsz]; decide)))) (eval_of (put_get _ _ _ (by simp only [put_size]; rw [hsz]; decide))) (by simp [go_sem]) (addI _ _ _ (by omega) (by omega)))) ?_
  refine ah_takeW 41 2 (.int .i64 ((((((((((m.cl.size : Int) + (m.wT.size : Int)) + (m.wP.size : Int)) + (m.us.size : Int)) + (m.pa.size : Int)) + ((nc : Nat) : Int)) + (m.top.size : Int)) + (m.pay.size : Int)) + (zw : Int)) + (zf : Int))) rfl (wanted_none rfl) rfl (by kernel_rfl) (by kernel_rfl) (by kernel_rfl) (fun _ _ _ h => h) ⟨hbW4, rW4_0⟩ (fun W hW => by (try obtain ⟨hbW4, rW4_0⟩ := hW); exact (run_assignOp (eval_of (put_get _ _ _ (by simp only [put_size]; rw [hsz]; decide))))) ?_
  refine fresh (C := fun x W => AH _ _ _ _ _ _ x W) (fun x X => _ = X ∧ x.tmps.size = 44 ∧ x.defers = [] ∧ x.tmps[2]? = some (.int .i64 ((((((((((m.cl.size : Int) + (m.wT.size : Int)) + (m.wP.size : Int)) + (m.us.size : Int)) + (m.pa.size : Int)) + ((nc : Nat) : Int)) + (m.top.size : Int)) + (m.pay.size : Int)) + (zw : Int)) + (zf : Int)))) ⟨rfl, (by simp only [put_size]; exact hsz), (by simp only [put_defers]; exact hdf), (put_get _ _ _ (by simp only [put_size]; rw [hsz]; decide))⟩ ?_
  clear hsz hdf s_1
  rintro a _ ⟨rfl, hsz, hdf, s_2⟩
  refine ah_done (by kernel_rfl) ?_
  refine ow_then ?_
  refine wp_ret ?_
  refine ow_ret1 rfl hdf s_2 ⟨_, rfl, hbW4, ?_, ?_⟩
  · omega
  · intro h3
    exact HF.out zw zf hzw0 hzf0 hzw2 hzf2 h3
set_option maxRecDepth 100000 in
set_option maxHeartbeats 4000000 in
theorem heavy_any (m : Mq) (ac aw af ax : Option Addr) (nc nw nf nx cc cw cf cx : Nat) (w : World) (hF : m.Far) (hL : m.Lists w (.slice ac nc cc) (.slice aw nw cw) (.slice af nf cf)) :
    Calls Tryd.prog 14 #[(.agg (Mq.row m (.slice ac nc cc) (.slice aw nw cw) (.slice af nf cf) ++ [(.slice ax nx cx : Value)]).toArray)] w fun e w' => ∃ b, e = .returned (.bool b) ∧ Below w.heap.size w w' ∧ (b = false → m.Near 3000 ∧ nx ≤ 3000) := by
  have hb0 := Below.refl w.heap.size w
  refine ow_enter 13 Tryd.func14 rfl Tryd.ntmps14 (by simp) ?_
  rintro a hsz hdf hargs
  have s_0 : a.tmps[0]? = some (.agg (Mq.row m (.slice ac nc cc) (.slice aw nw cw) (.slice af nf cf) ++ [(.slice ax nx cx : Value)]).toArray) := hargs 0 _ rfl
  clear hargs
  refine wp_seq ?_
  refine ow_region [_, _] rfl (by intro o ho; simp only [List.mem_cons, List.not_mem_nil, or_false] at ho; rcases ho with rfl | rfl <;> rfl) ?_
  obtain ⟨q1, hq1⟩ : ∃ x, x = w.heap.size := ⟨_, rfl⟩
  refine ow_run 1 (.pointer (some ⟨q1, 0, none⟩)) (w.alloc (.cells #[.int .i64 m.k, .string m.cl, .bool m.clean, .int .i64 m.keep, .bool m.wI, .string m.wT, .string m.wP, .int .i64 m.wQ, .bool m.wR, .string m.us, .bool m.hu, .string m.pa, .bool m.hp, .bool m.pres, .int .i64 m.code, .slice ac nc cc, .bool m.dup, .int .i64 m.q, .bool m.re, .string m.top, .int .i64 m.id, .string m.pay, .slice aw nw cw, .slice af nf cf, .slice ax nx cx] 33)) rfl (by rw [hq1]; exact (run_boxOp (eval_of s_0) (by simp [go_sem, Instr.box]))) ?_
  have hqq1 : w.heap.size ≤ q1 := by rw [hq1]; exact hb0.size
  refine fresh (C := fun x W => wpRun _ _ x W _) (fun x X => _ = x ∧ Below w.heap.size w X ∧ RowAt X q1 (Mq.row m (.slice ac nc cc) (.slice aw nw cw) (.slice af nf cf) ++ [(.slice ax nx cx : Value)])) ⟨rfl, (hb0.alloc hb0.size _), (by rw [hq1]; exact rowAt_alloc _ [.int .i64 m.k, .string m.cl, .bool m.clean, .int .i64 m.keep, .bool m.wI, .string m.wT, .string m.wP, .int .i64 m.wQ, .bool m.wR, .string m.us, .bool m.hu, .string m.pa, .bool m.hp, .bool m.pres, .int .i64 m.code, .slice ac nc cc, .bool m.dup, .int .i64 m.q, .bool m.re, .string m.top, .int .i64 m.id, .string m.pay, .slice aw nw cw, .slice af nf cf, .slice ax nx cx] _)⟩ ?_
  rintro _ W2 ⟨rfl, hbW2, rW2_0⟩
  clear hq1
  refine ow_run 2 (.bool false) _ rfl (run_assignOp (eval_cst _ _)) ?_
  refine fresh (C := fun x W => wpRun _ [] x W _) (fun x X => _ = X ∧ x.tmps.size = 13 ∧ x.defers = [] ∧ x.tmps[1]? = some (.pointer (some ⟨q1, 0, none⟩))) ⟨rfl, (by simp only [put_size]; exact hsz), (by simp only [put_defers]; exact hdf), (pf1 (by decide) (put_get _ _ _ (by rw [hsz]; decide)))⟩ ?_
  clear hsz hdf s_0
  rintro a _ ⟨rfl, hsz, hdf, s_1⟩
  refine ow_then ?_
  refine wp_seq ?_
  refine owl_region [_, _, _, _, _, _, _, _, _, _, _] rfl ?_
  refine owl_run (wanted_none rfl) 3 (.pointer (some ⟨q1, 0, none⟩)) _ rfl (run_fieldAddr (eval_of s_1) (by simp [go_sem, Instr.fieldAt])) ?_
  refine owl_run (wanted_none rfl) 4 (.agg (Mq.row m (.slice ac nc cc) (.slice aw nw cw) (.slice af nf cf)).toArray) _ rfl (run_loadOp (eval_of (put_get _ _ _ (by rw [hsz]; decide))) (run_loadN [.int .i64 m.k, .string m.cl, .bool m.clean, .int .i64 m.keep, .bool m.wI, .string m.wT, .string m.wP, .int .i64 m.wQ, .bool m.wR, .string m.us, .bool m.hu, .string m.pa, .bool m.hp, .bool m.pres, .int .i64 m.code, .slice ac nc cc, .bool m.dup, .int .i64 m.q, .bool m.re, .string m.top, .int .i64 m.id, .string m.pay, .slice aw nw cw, .slice af nf cf] rW2_0 (fun j v hj => mid_row 0 24 _ _ rfl j v hj) Tryd.underlying30 rfl (by kernel_rfl))) ?_
  refine owl_call (wanted_none rfl) 5 (fun v X => ∃ n : Int, v = .int .i64 n ∧ Below W2.heap.size W2 X ∧ 0 ≤ n ∧ (n ≤ 3000 → m.Near 3000)) rfl _ _ (run_callOp Tryd.func35 rfl rfl (arr1 (eval_of (put_get _ _ _ (by simp only [put_size]; rw [hsz]; decide))))) ((mqWeight_any m _ _ _ W2 hF (hL.below hbW2)).mono fun e X ⟨n, he, hr⟩ => ⟨_, he, n, rfl, hr⟩) ?_
  rintro _ V5 ⟨nz, rfl, hb4, hz0, hz3⟩
  refine fresh (C := fun x W => WL _ _ _ _ x W) (fun x X => _ = x ∧ Below w.heap.size w X ∧ RowAt X q1 (Mq.row m (.slice ac nc cc) (.slice aw nw cw) (.slice af nf cf) ++ [(.slice ax nx cx : Value)])) ⟨rfl, (hbW2.trans (hb4.mono hbW2.size)), (rW2_0.below hb4)⟩ ?_
  rintro _ W6 ⟨rfl, hbW6, rW6_0⟩
  refine owl_run (wanted_none rfl) 6 (.bool (decide (3000 < nz))) _ rfl (run_binOp (eval_of (put_get _ _ _ (by simp only [put_size]; rw [hsz]; decide))) (eval_cst _ _) (by simp [go_sem]) (by simp [go_sem])) ?_
  refine owl_run (wanted_none rfl) 7 (.bool (decide (3000 < nz))) _ rfl (run_moveOp (eval_of (put_get _ _ _ (by simp only [put_size]; rw [hsz]; decide)))) ?_
  rcases Bool.eq_false_or_eq_true ((decide (3000 < nz))) with hb_7 | hb_7
  · skip
    refine owg_no 4 7 false true rfl (by kernel_rfl) (flag_of (put_get _ _ _ (by simp only [put_size]; rw [hsz]; decide)) hb_7) (by decide) 8 rfl ?_
    refine owg_no 4 7 false true rfl (by kernel_rfl) (flag_of (pf1 (by decide) (put_get _ _ _ (by simp only [put_size]; rw [hsz]; decide))) hb_7) (by decide) 9 rfl ?_
    refine owg_no 4 7 false true rfl (by kernel_rfl) (flag_of (pf2 (by decide) (put_get _ _ _ (by simp only [put_size]; rw [hsz]; decide))) hb_7) (by decide) 10 rfl ?_
    refine owg_no 4 7 false true rfl (by kernel_rfl) (flag_of (pf1 (by decide) (pf2 (by decide) (put_get _ _ _ (by simp only [put_size]; rw [hsz]; decide)))) hb_7) (by decide) 11 rfl ?_
    refine owl_run (wanted_none rfl) 12 (.bool true) _ rfl (run_pickT (eval_cast (eval_of (pf4 (by decide) (put_get _ _ _ (by simp only [put_size]; rw [hsz]; decide)))) hb_7) (eval_cst _ _)) ?_
    refine owl_run (wanted_none rfl) 2 (.bool true) _ rfl (run_assignOp (eval_of (put_get _ _ _ (by simp only [put_size]; rw [hsz]; decide)))) ?_
    refine fresh (C := fun x W => WL _ _ _ [] x W) (fun x X => _ = X ∧ x.tmps.size = 13 ∧ x.defers = [] ∧ x.tmps[2]? = some (.bool true)) ⟨rfl, (by simp only [put_size]; exact hsz), (by simp only [put_defers]; exact hdf), (put_get _ _ _ (by simp only [put_size]; rw [hsz]; decide))⟩ ?_
    clear hsz hdf s_1
    rintro a _ ⟨rfl, hsz, hdf, s_2⟩
    refine wl_done ?_
    refine ow_then ?_
    refine wp_ret ?_
    refine ow_ret1 rfl hdf s_2 ⟨_, rfl, hbW6, ?_⟩
    intro h; cases h
  · skip
    refine owg_run 4 7 false rfl (by kernel_rfl) (flag_of (put_get _ _ _ (by simp only [put_size]; rw [hsz]; decide)) hb_7) 8 (.pointer (some ⟨q1, 24, none⟩)) _ rfl (run_fieldAddr (eval_of (pf1 (by decide) (pf4 (by decide) s_1))) (by simp [go_sem, Instr.fieldAt])) ?_
    refine owg_run 4 7 false rfl (by kernel_rfl) (flag_of (pf1 (by decide) (put_get _ _ _ (by simp only [put_size]; rw [hsz]; decide))) hb_7) 9 (.slice ax nx cx) _ rfl (run_loadOp (eval_of (put_get _ _ _ (by simp only [put_size]; rw [hsz]; decide))) (by simp [go_sem, Instr.loadAt, rW6_0.cell (j := 24) rfl])) ?_
    refine owg_run 4 7 false rfl (by kernel_rfl) (flag_of (pf2 (by decide) (put_get _ _ _ (by simp only [put_size]; rw [hsz]; decide))) hb_7) 10 (.int .i64 ((nx : Nat) : Int)) _ rfl (run_lenOp Tryd.underlying31 (eval_of (put_get _ _ _ (by simp only [put_size]; rw [hsz]; decide)))) ?_
    refine owg_run 4 7 false rfl (by kernel_rfl) (flag_of (pf1 (by decide) (pf2 (by decide) (put_get _ _ _ (by simp only [put_size]; rw [hsz]; decide)))) hb_7) 11 (.bool (decide (3000 < ((nx : Nat) : Int)))) _ rfl (run_binOp (eval_of (put_get _ _ _ (by simp only [put_size]; rw [hsz]; decide))) (eval_cst _ _) (by simp [go_sem]) (by simp [go_sem])) ?_
    refine owl_run (wanted_none rfl) 12 (.bool (decide (3000 < ((nx : Nat) : Int)))) _ rfl (run_pickF (eval_cast (eval_of (pf4 (by decide) (put_get _ _ _ (by simp only [put_size]; rw [hsz]; decide)))) hb_7) (eval_of (put_get _ _ _ (by simp only [put_size]; rw [hsz]; decide)))) ?_
    refine owl_run (wanted_none rfl) 2 (.bool (decide (3000 < ((nx : Nat) : Int)))) _ rfl (run_assignOp (eval_of (put_get _ _ _ (by simp only [put_size]; rw [hsz]; decide)))) ?_
    refine fresh (C := fun x W => WL _ _ _ [] x W) (fun x X => _ = X ∧ x.tmps.size = 13 ∧ x.defers = [] ∧ x.tmps[2]? = some (.bool (decide (3000 < ((nx : Nat) : Int))))) ⟨rfl, (by simp only [put_size]; exact hsz), (by simp only [put_defers]; exact hdf), (put_get _ _ _ (by simp only [put_size]; rw [hsz]; decide))⟩ ?_
    clear hsz hdf s_1
    rintro a _ ⟨rfl, hsz, hdf, s_2⟩
    refine wl_done ?_
    refine ow_then ?_
    refine wp_ret ?_
    refine ow_ret1 rfl hdf s_2 ⟨_, rfl, hbW6, ?_⟩
    intro h; exact ⟨hz3 (by have := hb_7; simp at this; omega), by simp at h; omega⟩
theorem own_lt {w : World} {base e size n k : Nat} {v : Value} {xs : List Value} (h : w.ownsRow base e size v n xs) (hk : v.ownBlock = some k) : base ≤ k ∧ k < w.heap.size := by
  rcases h.2 with ⟨rfl, -⟩ | ⟨g, cap, cur, rfl, hb, hh, -⟩
  · simp [Value.ownBlock] at hk
  · simp [Value.ownBlock] at hk; subst hk
    refine ⟨hb, ?_⟩
    rcases Nat.lt_or_ge g w.heap.size with h | h
    · exact h
    · rw [Array.getElem?_eq_none h] at hh; simp at hh
/-- A row of our own that nobody wrote. -/
theorem own_keep {w w' : World} {base e size n : Nat} {v : Value} {xs : List Value} {r : Option Nat} (h : w.ownsRow base e size v n xs) (hg : w.grownBy w' r) (hn : ∀ k, v.ownBlock = some k → some k ≠ r) : w'.ownsRow base e size v n xs := by
  refine ⟨h.1, ?_⟩
  rcases h.2 with h1 | ⟨g, cap, cur, rfl, hb, hh, h2⟩
  · exact .inl h1
  · have hlt : g < w.heap.size := by
      rcases Nat.lt_or_ge g w.heap.size with h | h
      · exact h
      · rw [Array.getElem?_eq_none h] at hh; simp at hh
    exact .inr ⟨g, cap, cur, rfl, hb, by rw [hg.block g hlt (hn g rfl)]; exact hh, h2⟩
theorem rowAt_keep {w w' : World} {q : Nat} {vs : List Value} {r : Option Nat} (h : RowAt w q vs) (hg : w.grownBy w' r) (hn : some q ≠ r) : RowAt w' q vs := by
  have hb := hg.block q h.2.2 hn
  exact ⟨fun j v hj => (World.cell?_of_block (w := w) (w' := w') (a := ⟨q, j, none⟩) hb).trans (h.1 j v hj), fun j => (World.frozen?_of_block (w := w) (w' := w') (a := ⟨q, j, none⟩) hb).trans (h.2.1 j), Nat.lt_of_lt_of_le h.2.2 hg.size⟩
theorem opTo_appendOwn {P : Program} {o : Oper} {a : Act} {w : World} (s x : Operand) (t : TypeId) (ho : o.op = .call { callee := .builtin .append, args := #[s, x], argTypes := #[t, t] })
    (base : Nat) (e : TypeId) (i : TypeInfo) (z : Value) (size bytes : Nat) (ht : P.underlying t = some (.slice e)) (hi : P.info? e = some i) (hz : i.zero = some z)
    (hsize : i.size = size) (hby : i.bytes = bytes) (hzs : z.cells.size = size) (hsz : 0 < size)
    (v : Value) (n : Nat) (xs : List Value) (hs : a.eval s = v) (hown : w.ownsRow base e size v n xs)
    (ad : Addr) (m c : Nat) (news : List Value) (hx : a.eval x = .slice (some ad) m c) (hl : news.length = m * size) (hnews : ∀ j u, news[j]? = some u → w.cell? (ad.add j) = some u) (h1 : ∀ u ∈ news, u.oneCell' = true)
    (h63 : n + m ≤ maxLen) (hbytes : (n + m) * bytes ≤ 140737488355328) (hbase : base ≤ w.heap.size) : opTo P o a w fun v' w' => w'.ownsRow base e size v' (n + m) (xs ++ news) ∧ Grew w w' v v' := by
  obtain ⟨v', w', hr, h2', h3', h4'⟩ := run_append_at (P := P) w base t o.type e i z size bytes ht hi hz hsize hby hzs hsz v n xs hown ad m c news hl hnews h1 h63 hbytes hbase
  refine .inl ⟨v', w', ?_, h2', (Grew.refl w v).app0 h3' h4'⟩
  unfold execOp
  simp only [ho, resolve, invoke, builtin, Sem.run_bind, Sem.run_pure, Result.andThen_ok, List.map_toArray, List.map_cons, List.map_nil, hs, hx, hr]
/-- A packet whose lists are rows of our own, in blocks of their own. -/
structure MqOwn (W : World) (B : Nat) (m : Mq) (vc vw vf : Value) : Prop where
  c : W.ownsRow B 3 1 vc m.cs.length (m.cs.map (fun x => (.int .i64 x : Value)))
  w : W.ownsRow B 93 2 vw m.ws.length (m.ws.map rowWish).flatten
  f : W.ownsRow B 9 1 vf m.fs.length (m.fs.map (fun x => (.string x : Value)))
  cw : ∀ k, vc.ownBlock = some k → vw.ownBlock ≠ some k
  cf : ∀ k, vc.ownBlock = some k → vf.ownBlock ≠ some k
  wf : ∀ k, vw.ownBlock = some k → vf.ownBlock ≠ some k
theorem MqOwn.below {W W' : World} {B : Nat} {m : Mq} {vc vw vf : Value} (h : MqOwn W B m vc vw vf) (hb : Below W.heap.size W W') : MqOwn W' B m vc vw vf := ⟨below_own h.c hb, below_own h.w hb, below_own h.f hb, h.cw, h.cf, h.wf⟩
theorem MqOwn.lists {W : World} {B : Nat} {m : Mq} {vc vw vf : Value} (h : MqOwn W B m vc vw vf) : m.Lists W vc vw vf := by
  refine ⟨?_, ?_, ?_⟩
  · exact (SlR.of_own (by decide) (by intro q hq; obtain ⟨x, -, rfl⟩ := List.mem_map.1 hq; rfl) (by rw [flatNumbers]; exact h.c)).1
  · exact (SlR.of_own (by decide) (by intro q hq; obtain ⟨x, -, rfl⟩ := List.mem_map.1 hq; rfl) h.w).1
  · exact (SlR.of_own (by decide) (by intro q hq; obtain ⟨x, -, rfl⟩ := List.mem_map.1 hq; rfl) (by rw [flatStrings]; exact h.f)).1
theorem MqOwn.slices {W : World} {B : Nat} {m : Mq} {vc vw vf : Value} (h : MqOwn W B m vc vw vf) : ∃ ac cc aw cw af cf, vc = .slice ac m.cs.length cc ∧ vw = .slice aw m.ws.length cw ∧ vf = .slice af m.fs.length cf := by
  obtain ⟨ac, cc, h1⟩ := own_slice h.c
  obtain ⟨aw, cw, h2⟩ := own_slice h.w
  obtain ⟨af, cf, h3⟩ := own_slice h.f
  exact ⟨ac, cc, aw, cw, af, cf, h1, h2, h3⟩
theorem ne_of_grew {w w' : World} {v v' v2 : Value} {base e size n : Nat} {xs : List Value} (hg : Grew w w' v v') (h2 : w.ownsRow base e size v2 n xs) (hn : ∀ k, v.ownBlock = some k → v2.ownBlock ≠ some k) : ∀ k, v'.ownBlock = some k → v2.ownBlock ≠ some k := by
  intro k hk h
  rcases hg.2 with h1 | ⟨k', h1, hle⟩
  · exact hn k (h1.symm.trans hk) h
  · have := own_lt h2 h
    rw [hk] at h1; injection h1 with h1; omega
theorem some_ne {v v2 : Value} (h : ∀ k, v.ownBlock = some k → v2.ownBlock ≠ some k) : ∀ k, v2.ownBlock = some k → some k ≠ v.ownBlock := fun k h1 h2 => h k h2.symm h1
theorem MqOwn.addC {W W' : World} {B : Nat} {m : Mq} {vc vw vf v' : Value} {x : Int} (h : MqOwn W B m vc vw vf) (ho : W'.ownsRow B 3 1 v' (m.cs.length + 1) (m.cs.map (fun x => (.int .i64 x : Value)) ++ [.int .i64 x])) (hg : Grew W W' vc v') : MqOwn W' B { m with cs := m.cs ++ [x] } v' vw vf :=
  ⟨by simpa using ho, own_keep h.w hg.1 (some_ne h.cw), own_keep h.f hg.1 (some_ne h.cf), ne_of_grew hg h.w h.cw, ne_of_grew hg h.f h.cf, h.wf⟩
theorem flip_ne {v v2 : Value} (h : ∀ k, v.ownBlock = some k → v2.ownBlock ≠ some k) : ∀ k, v2.ownBlock = some k → v.ownBlock ≠ some k := fun k h1 h2 => h k h2 h1
theorem MqOwn.addW {W W' : World} {B : Nat} {m : Mq} {vc vw vf v' : Value} {x : EWish} (h : MqOwn W B m vc vw vf) (ho : W'.ownsRow B 93 2 v' (m.ws.length + 1) ((m.ws.map rowWish).flatten ++ rowWish x)) (hg : Grew W W' vw v') : MqOwn W' B { m with ws := m.ws ++ [x] } vc v' vf :=
  ⟨own_keep h.c hg.1 (some_ne (flip_ne h.cw)), by simpa using ho, own_keep h.f hg.1 (some_ne h.wf), flip_ne (ne_of_grew hg h.c (flip_ne h.cw)), h.cf, ne_of_grew hg h.f h.wf⟩
theorem MqOwn.addF {W W' : World} {B : Nat} {m : Mq} {vc vw vf v' : Value} {x : ByteArray} (h : MqOwn W B m vc vw vf) (ho : W'.ownsRow B 9 1 v' (m.fs.length + 1) (m.fs.map (fun x => (.string x : Value)) ++ [.string x])) (hg : Grew W W' vf v') : MqOwn W' B { m with fs := m.fs ++ [x] } vc vw v' :=
  ⟨own_keep h.c hg.1 (some_ne (flip_ne h.cf)), own_keep h.w hg.1 (some_ne (flip_ne h.wf)), by simpa using ho, h.cw, flip_ne (ne_of_grew hg h.c (flip_ne h.cf)), flip_ne (ne_of_grew hg h.w (flip_ne h.wf))⟩
theorem set1_size {n q j : Nat} {W : World} {u : Value} (h : n ≤ W.heap.size) : n ≤ (W.setCell ⟨q, j, none⟩ u).heap.size := by simpa using h
theorem setN_size {n q j : Nat} {us : List Value} {W : World} (h : n ≤ W.heap.size) : n ≤ (W.setCells q j us).heap.size := Nat.le_trans h (below_sets (Nat.zero_le q) us j W (Below.refl 0 W)).size
theorem own_open {e : Ending} {w X : World} {t sz n B : Nat} {xs : List Value} (h : ∃ v, e = .returned v ∧ Below w.heap.size w X ∧ X.ownsRow B t sz v n xs) : ∃ v, e = .returned v ∧ ∃ ao cp, v = .slice ao n cp ∧ Below w.heap.size w X ∧ X.ownsRow B t sz (.slice ao n cp) n xs := by
  obtain ⟨v, he, hb, ho⟩ := h
  obtain ⟨ao, cp, rfl⟩ := own_slice ho
  exact ⟨_, he, ao, cp, rfl, hb, ho⟩
theorem own_set1 {w : World} {base e size n q j : Nat} {v u : Value} {xs : List Value} (h : w.ownsRow base e size v n xs) (hn : v.ownBlock = some q → False) : (w.setCell ⟨q, j, none⟩ u).ownsRow base e size v n xs := by
  refine ⟨h.1, ?_⟩
  rcases h.2 with h1 | ⟨g, cap, cur, rfl, hb, hh, h2⟩
  · exact .inl h1
  · refine .inr ⟨g, cap, cur, rfl, hb, ?_, h2⟩
    have : q ≠ g := fun e => hn (by rw [e]; rfl)
    exact (Below.heap_setCell w ⟨q, j, none⟩ u g (Ne.symm this)).trans hh
theorem own_setN {e size n q : Nat} {base : Nat} {v : Value} {xs : List Value} : ∀ (us : List Value) (j : Nat) (w : World), w.ownsRow base e size v n xs → (v.ownBlock = some q → False) → (w.setCells q j us).ownsRow base e size v n xs := by
  intro us
  induction us with
  | nil => intro j w h _; exact h
  | cons u t ih => intro j w h hn; exact ih _ _ (own_set1 h hn) hn
theorem ow_retCell1 {P : Program} {fn : Func} {a : Act} {w : World} {R : Ending → World → Prop} {t : Nat} {ty : TypeId} {ad : Addr} {v : Value} (hr : fn.results = #[.cell t ty]) (hd : a.defers = []) (hv : a.tmps[t]? = some (.pointer (some ad))) (hl : (loadVar ty ad).run P w = .ok v w) (hR : R (.returned v) w) : bodyPost P fn R .ret a w :=
  bodyPost_ret (v := v) (by simp [results, hr, Array.getD_eq_getD_getElem?, hv, asAddr, hl]) hd hR
set_option maxRecDepth 100000 in
set_option maxHeartbeats 4000000 in
theorem copyMq_any (m : Mq) (vc vw vf : Value) (w : World) (hL : m.Lists w vc vw vf) (hcs : m.cs.length ≤ 1000000) (hws : m.ws.length ≤ 1000000) (hfs : m.fs.length ≤ 1000000) :
    Calls Tryd.prog 23 #[m.val vc vw vf] w fun e w' => ∃ v2c v2w v2f, e = .returned (m.val v2c v2w v2f) ∧ Below w.heap.size w w' ∧ MqOwn w' w.heap.size m v2c v2w v2f := by
  have hb0 := Below.refl w.heap.size w
  obtain ⟨ac, cc, rfl, -, -, -, -⟩ := id hL.c
  obtain ⟨aw, cw, rfl, -, -, -, -⟩ := id hL.w
  obtain ⟨af, cf, rfl, -, -, -, -⟩ := id hL.f
  generalize (m.cs.map cn).length = nc at hL ⊢
  generalize (m.ws.map rowWish).length = nw at hL ⊢
  generalize (m.fs.map cs1).length = nf at hL ⊢
  refine ow_enter 18 Tryd.func23 rfl Tryd.ntmps23 (by simp) ?_
  rintro a hsz hdf hargs
  have s_0 : a.tmps[0]? = some (.agg (Mq.row m (.slice ac nc cc) (.slice aw nw cw) (.slice af nf cf)).toArray) := hargs 0 _ rfl
  clear hargs
  refine wp_seq ?_
  refine ow_region [_, _] rfl (by intro o ho; simp only [List.mem_cons, List.not_mem_nil, or_false] at ho; rcases ho with rfl | rfl <;> rfl) ?_
  obtain ⟨q1, hq1⟩ : ∃ x, x = w.heap.size := ⟨_, rfl⟩
  refine ow_run 1 (.pointer (some ⟨q1, 0, none⟩)) (w.alloc (.cells #[.int .i64 m.k, .string m.cl, .bool m.clean, .int .i64 m.keep, .bool m.wI, .string m.wT, .string m.wP, .int .i64 m.wQ, .bool m.wR, .string m.us, .bool m.hu, .string m.pa, .bool m.hp, .bool m.pres, .int .i64 m.code, .slice ac nc cc, .bool m.dup, .int .i64 m.q, .bool m.re, .string m.top, .int .i64 m.id, .string m.pay, .slice aw nw cw, .slice af nf cf] 30)) rfl (by rw [hq1]; exact (run_boxOp (eval_of s_0) (by simp [go_sem, Instr.box]))) ?_
  have hqq1 : w.heap.size ≤ q1 := by rw [hq1]; exact hb0.size
  refine fresh (C := fun x W => wpRun _ _ x W _) (fun x X => _ = x ∧ Below w.heap.size w X ∧ RowAt X q1 (Mq.row m (.slice ac nc cc) (.slice aw nw cw) (.slice af nf cf))) ⟨rfl, (hb0.alloc hb0.size _), (by rw [hq1]; exact rowAt_alloc _ [.int .i64 m.k, .string m.cl, .bool m.clean, .int .i64 m.keep, .bool m.wI, .string m.wT, .string m.wP, .int .i64 m.wQ, .bool m.wR, .string m.us, .bool m.hu, .string m.pa, .bool m.hp, .bool m.pres, .int .i64 m.code, .slice ac nc cc, .bool m.dup, .int .i64 m.q, .bool m.re, .string m.top, .int .i64 m.id, .string m.pay, .slice aw nw cw, .slice af nf cf] _)⟩ ?_
  rintro _ W2 ⟨rfl, hbW2, rW2_0⟩
  clear hq1
  obtain ⟨q3, hq3⟩ : ∃ x, x = W2.heap.size := ⟨_, rfl⟩
  refine ow_run 2 (.pointer (some ⟨q3, 0, none⟩)) (W2.alloc (.cells #[.int .i64 0, .string { data := #[] }, .bool false, .int .i64 0, .bool false, .string { data := #[] }, .string { data := #[] }, .int .i64 0, .bool false, .string { data := #[] }, .bool false, .string { data := #[] }, .bool false, .bool false, .int .i64 0, .slice none 0 0, .bool false, .int .i64 0, .bool false, .string { data := #[] }, .int .i64 0, .string { data := #[] }, .slice none 0 0, .slice none 0 0] 30)) rfl (by rw [hq3]; exact (run_allocOp (by simp [go_sem, Instr.alloc]))) ?_
  have hqq3 : w.heap.size ≤ q3 := by rw [hq3]; exact hbW2.size
  have hnq3_q1 : q1 < q3 := by rw [hq3]; exact rW2_0.2.2
  refine fresh (C := fun x W => wpRun _ _ x W _) (fun x X => _ = x ∧ Below w.heap.size w X ∧ RowAt X q1 (Mq.row m (.slice ac nc cc) (.slice aw nw cw) (.slice af nf cf)) ∧ RowAt X q3 [.int .i64 0, .string { data := #[] }, .bool false, .int .i64 0, .bool false, .string { data := #[] }, .string { data := #[] }, .int .i64 0, .bool false, .string { data := #[] }, .bool false, .string { data := #[] }, .bool false, .bool false, .int .i64 0, .slice none 0 0, .bool false, .int .i64 0, .bool false, .string { data := #[] }, .int .i64 0, .string { data := #[] }, .slice none 0 0, .slice none 0 0]) ⟨rfl, (hbW2.alloc hbW2.size _), (rW2_0.below ((Below.refl _ W2).alloc (Nat.le_refl _) _)), (by rw [hq3]; exact rowAt_alloc _ [.int .i64 0, .string { data := #[] }, .bool false, .int .i64 0, .bool false, .string { data := #[] }, .string { data := #[] }, .int .i64 0, .bool false, .string { data := #[] }, .bool false, .string { data := #[] }, .bool false, .bool false, .int .i64 0, .slice none 0 0, .bool false, .int .i64 0, .bool false, .string { data := #[] }, .int .i64 0, .string { data := #[] }, .slice none 0 0, .slice none 0 0] _)⟩ ?_
  rintro _ W4 ⟨rfl, hbW4, rW4_0, rW4_1⟩
  clear hq3
  refine fresh (C := fun x W => wpRun _ [] x W _) (fun x X => _ = X ∧ x.tmps.size = 18 ∧ x.defers = [] ∧ x.tmps[1]? = some (.pointer (some ⟨q1, 0, none⟩)) ∧ x.tmps[2]? = some (.pointer (some ⟨q3, 0, none⟩))) ⟨rfl, (by simp only [put_size]; exact hsz), (by simp only [put_defers]; exact hdf), (pf1 (by decide) (put_get _ _ _ (by rw [hsz]; decide))), (put_get _ _ _ (by simp only [put_size]; rw [hsz]; decide))⟩ ?_
  clear hsz hdf s_0
  rintro a _ ⟨rfl, hsz, hdf, s_1, s_2⟩
  refine ow_then ?_
  refine wp_seq ?_
  refine ow_region [_, _, _] rfl (by intro o ho; simp only [List.mem_cons, List.not_mem_nil, or_false] at ho; rcases ho with rfl | rfl | rfl <;> rfl) ?_
  refine ow_run 4 (.agg (Mq.row m (.slice ac nc cc) (.slice aw nw cw) (.slice af nf cf)).toArray) _ rfl (run_loadOp (eval_of s_1) (run_loadN [.int .i64 m.k, .string m.cl, .bool m.clean, .int .i64 m.keep, .bool m.wI, .string m.wT, .string m.wP, .int .i64 m.wQ, .bool m.wR, .string m.us, .bool m.hu, .string m.pa, .bool m.hp, .bool m.pres, .int .i64 m.code, .slice ac nc cc, .bool m.dup, .int .i64 m.q, .bool m.re, .string m.top, .int .i64 m.id, .string m.pay, .slice aw nw cw, .slice af nf cf] rW4_0 (fun j v hj => by simpa using hj) Tryd.underlying30 rfl (by kernel_rfl))) ?_
  obtain ⟨q6, hq6⟩ : ∃ x, x = W4.heap.size := ⟨_, rfl⟩
  refine ow_run 3 (.pointer (some ⟨q6, 0, none⟩)) (W4.alloc (.cells #[.int .i64 0, .string { data := #[] }, .bool false, .int .i64 0, .bool false, .string { data := #[] }, .string { data := #[] }, .int .i64 0, .bool false, .string { data := #[] }, .bool false, .string { data := #[] }, .bool false, .bool false, .int .i64 0, .slice none 0 0, .bool false, .int .i64 0, .bool false, .string { data := #[] }, .int .i64 0, .string { data := #[] }, .slice none 0 0, .slice none 0 0] 30)) rfl (by rw [hq6]; exact (run_allocOp (by simp [go_sem, Instr.alloc]))) ?_
  have hqq6 : w.heap.size ≤ q6 := by rw [hq6]; exact hbW4.size
  have hnq6_q1 : q1 < q6 := by rw [hq6]; exact rW4_0.2.2
  have hnq6_q3 : q3 < q6 := by rw [hq6]; exact rW4_1.2.2
  refine fresh (C := fun x W => wpRun _ _ x W _) (fun x X => _ = x ∧ Below w.heap.size w X ∧ RowAt X q1 (Mq.row m (.slice ac nc cc) (.slice aw nw cw) (.slice af nf cf)) ∧ RowAt X q3 [.int .i64 0, .string { data := #[] }, .bool false, .int .i64 0, .bool false, .string { data := #[] }, .string { data := #[] }, .int .i64 0, .bool false, .string { data := #[] }, .bool false, .string { data := #[] }, .bool false, .bool false, .int .i64 0, .slice none 0 0, .bool false, .int .i64 0, .bool false, .string { data := #[] }, .int .i64 0, .string { data := #[] }, .slice none 0 0, .slice none 0 0] ∧ RowAt X q6 [.int .i64 0, .string { data := #[] }, .bool false, .int .i64 0, .bool false, .string { data := #[] }, .string { data := #[] }, .int .i64 0, .bool false, .string { data := #[] }, .bool false, .string { data := #[] }, .bool false, .bool false, .int .i64 0, .slice none 0 0, .bool false, .int .i64 0, .bool false, .string { data := #[] }, .int .i64 0, .string { data := #[] }, .slice none 0 0, .slice none 0 0]) ⟨rfl, (hbW4.alloc hbW4.size _), (rW4_0.below ((Below.refl _ W4).alloc (Nat.le_refl _) _)), (rW4_1.below ((Below.refl _ W4).alloc (Nat.le_refl _) _)), (by rw [hq6]; exact rowAt_alloc _ [.int .i64 0, .string { data := #[] }, .bool false, .int .i64 0, .bool false, .string { data := #[] }, .string { data := #[] }, .int .i64 0, .bool false, .string { data := #[] }, .bool false, .string { data := #[] }, .bool false, .bool false, .int .i64 0, .slice none 0 0, .bool false, .int .i64 0, .bool false, .string { data := #[] }, .int .i64 0, .string { data := #[] }, .slice none 0 0, .slice none 0 0] _)⟩ ?_
  rintro _ W7 ⟨rfl, hbW7, rW7_0, rW7_1, rW7_2⟩
  clear hq6
  refine ow_skip _ rfl (run_storeOp (eval_of (put_get _ _ _ (by simp only [put_size]; rw [hsz]; decide))) (eval_of (pf1 (by decide) (put_get _ _ _ (by rw [hsz]; decide)))) (run_storeN (xs := [.int .i64 m.k, .string m.cl, .bool m.clean, .int .i64 m.keep, .bool m.wI, .string m.wT, .string m.wP, .int .i64 m.wQ, .bool m.wR, .string m.us, .bool m.hu, .string m.pa, .bool m.hp, .bool m.pres, .int .i64 m.code, .slice ac nc cc, .bool m.dup, .int .i64 m.q, .bool m.re, .string m.top, .int .i64 m.id, .string m.pay, .slice aw nw cw, .slice af nf cf]) rW7_2 (by simp) (by kernel_rfl) rfl)) ?_
  refine fresh (C := fun x W => wpRun _ _ x W _) (fun x X => _ = x ∧ Below w.heap.size w X ∧ RowAt X q1 (Mq.row m (.slice ac nc cc) (.slice aw nw cw) (.slice af nf cf)) ∧ RowAt X q3 [.int .i64 0, .string { data := #[] }, .bool false, .int .i64 0, .bool false, .string { data := #[] }, .string { data := #[] }, .int .i64 0, .bool false, .string { data := #[] }, .bool false, .string { data := #[] }, .bool false, .bool false, .int .i64 0, .slice none 0 0, .bool false, .int .i64 0, .bool false, .string { data := #[] }, .int .i64 0, .string { data := #[] }, .slice none 0 0, .slice none 0 0] ∧ RowAt X q6 (Mq.row m (.slice ac nc cc) (.slice aw nw cw) (.slice af nf cf))) ⟨rfl, (below_sets (by omega) _ _ _ hbW7), (RowAt.sets_other _ _ _ rW7_0 (by omega)), (RowAt.sets_other _ _ _ rW7_1 (by omega)), (RowAt.sets [.int .i64 m.k, .string m.cl, .bool m.clean, .int .i64 m.keep, .bool m.wI, .string m.wT, .string m.wP, .int .i64 m.wQ, .bool m.wR, .string m.us, .bool m.hu, .string m.pa, .bool m.hp, .bool m.pres, .int .i64 m.code, .slice ac nc cc, .bool m.dup, .int .i64 m.q, .bool m.re, .string m.top, .int .i64 m.id, .string m.pay, .slice aw nw cw, .slice af nf cf] 0 _ _ rW7_2 (by simp))⟩ ?_
  rintro _ W8 ⟨rfl, hbW8, rW8_0, rW8_1, rW8_2⟩
  refine fresh (C := fun x W => wpRun _ [] x W _) (fun x X => _ = X ∧ x.tmps.size = 18 ∧ x.defers = [] ∧ x.tmps[1]? = some (.pointer (some ⟨q1, 0, none⟩)) ∧ x.tmps[2]? = some (.pointer (some ⟨q3, 0, none⟩)) ∧ x.tmps[3]? = some (.pointer (some ⟨q6, 0, none⟩))) ⟨rfl, (by simp only [put_size]; exact hsz), (by simp only [put_defers]; exact hdf), (pf2 (by decide) s_1), (pf2 (by decide) s_2), (put_get _ _ _ (by simp only [put_size]; rw [hsz]; decide))⟩ ?_
  clear hsz hdf s_1 s_2
  rintro a _ ⟨rfl, hsz, hdf, s_1, s_2, s_3⟩
  refine ow_then ?_
  refine wp_seq ?_
  refine ow_region [_, _, _, _, _] rfl (by intro o ho; simp only [List.mem_cons, List.not_mem_nil, or_false] at ho; rcases ho with rfl | rfl | rfl | rfl | rfl <;> rfl) ?_
  refine ow_run 5 (.pointer (some ⟨q1, 15, none⟩)) _ rfl (run_fieldAddr (eval_of s_1) (by simp [go_sem, Instr.fieldAt])) ?_
  refine ow_run 6 (.slice ac nc cc) _ rfl (run_loadOp (eval_of (put_get _ _ _ (by rw [hsz]; decide))) (by simp [go_sem, Instr.loadAt, rW8_0.cell (j := 15) rfl])) ?_
  have hltc_q1 := rW8_0.2.2
  have hltc_q3 := rW8_1.2.2
  have hltc_q6 := rW8_2.2.2
  refine ow_call 7 (fun v X => ∃ ao cp, v = .slice ao m.cs.length cp ∧ Below W8.heap.size W8 X ∧ X.ownsRow W8.heap.size 3 1 (.slice ao m.cs.length cp) m.cs.length (m.cs.map (fun x => (.int .i64 x : Value)))) rfl _ _ (run_callOp Tryd.func47 rfl rfl (arr1 (eval_of (put_get _ _ _ (by simp only [put_size]; rw [hsz]; decide))))) ((copyNumbers_any _ m.cs W8 hcs (hL.below hbW8).c).mono fun e X h => own_open h) ?_
  rintro _ V11 ⟨a2c, c2c, rfl, hb10, hoc⟩
  refine fresh (C := fun x W => wpRun _ _ x W _) (fun x X => _ = x ∧ Below w.heap.size w X ∧ RowAt X q1 (Mq.row m (.slice ac nc cc) (.slice aw nw cw) (.slice af nf cf)) ∧ RowAt X q3 [.int .i64 0, .string { data := #[] }, .bool false, .int .i64 0, .bool false, .string { data := #[] }, .string { data := #[] }, .int .i64 0, .bool false, .string { data := #[] }, .bool false, .string { data := #[] }, .bool false, .bool false, .int .i64 0, .slice none 0 0, .bool false, .int .i64 0, .bool false, .string { data := #[] }, .int .i64 0, .string { data := #[] }, .slice none 0 0, .slice none 0 0] ∧ RowAt X q6 (Mq.row m (.slice ac nc cc) (.slice aw nw cw) (.slice af nf cf)) ∧ X.ownsRow W8.heap.size 3 1 (.slice a2c m.cs.length c2c) m.cs.length (m.cs.map (fun x => (.int .i64 x : Value)))) ⟨rfl, (hbW8.trans (hb10.mono hbW8.size)), (rW8_0.below hb10), (rW8_1.below hb10), (rW8_2.below hb10), hoc⟩ ?_
  rintro _ W12 ⟨rfl, hbW12, rW12_0, rW12_1, rW12_2, fW12_0⟩
  have hloc : ∀ k, (Value.slice a2c m.cs.length c2c).ownBlock = some k → W8.heap.size ≤ k ∧ k < W12.heap.size := fun k hk => own_lt fW12_0 hk
  have hxcq1 : ∀ k, (Value.slice a2c m.cs.length c2c).ownBlock = some k → k ≠ q1 := fun k hk => by have h1 := hloc k hk; have h2 := hltc_q1; omega
  have hxcq3 : ∀ k, (Value.slice a2c m.cs.length c2c).ownBlock = some k → k ≠ q3 := fun k hk => by have h1 := hloc k hk; have h2 := hltc_q3; omega
  have hxcq6 : ∀ k, (Value.slice a2c m.cs.length c2c).ownBlock = some k → k ≠ q6 := fun k hk => by have h1 := hloc k hk; have h2 := hltc_q6; omega
  have hzc := Nat.le_refl W12.heap.size
  refine ow_run 8 (.pointer (some ⟨q6, 15, none⟩)) _ rfl (run_fieldAddr (eval_of (pf1 (by decide) (pf2 (by decide) s_3))) (by simp [go_sem, Instr.fieldAt])) ?_
  refine ow_skip _ rfl (run_storeOp (eval_of (put_get _ _ _ (by simp only [put_size]; rw [hsz]; decide))) (eval_of (pf1 (by decide) (put_get _ _ _ (by simp only [put_size]; rw [hsz]; decide)))) (run_store1 rW12_2 (by simp) (by kernel_rfl) rfl)) ?_
  refine fresh (C := fun x W => wpRun _ _ x W _) (fun x X => _ = x ∧ Below w.heap.size w X ∧ RowAt X q1 (Mq.row m (.slice ac nc cc) (.slice aw nw cw) (.slice af nf cf)) ∧ RowAt X q3 [.int .i64 0, .string { data := #[] }, .bool false, .int .i64 0, .bool false, .string { data := #[] }, .string { data := #[] }, .int .i64 0, .bool false, .string { data := #[] }, .bool false, .string { data := #[] }, .bool false, .bool false, .int .i64 0, .slice none 0 0, .bool false, .int .i64 0, .bool false, .string { data := #[] }, .int .i64 0, .string { data := #[] }, .slice none 0 0, .slice none 0 0] ∧ RowAt X q6 (Mq.row m (.slice a2c m.cs.length c2c) (.slice aw nw cw) (.slice af nf cf)) ∧ X.ownsRow W8.heap.size 3 1 (.slice a2c m.cs.length c2c) m.cs.length (m.cs.map (fun x => (.int .i64 x : Value))) ∧ W12.heap.size ≤ X.heap.size) ⟨rfl, (below_set1 hbW12 (by omega)), (rW12_0.other (by omega)), (rW12_1.other (by omega)), (rW12_2.set1 15 _ (by simp)), (own_set1 fW12_0 (fun hk => hxcq6 _ hk rfl)), (set1_size hzc)⟩ ?_
  rintro _ W13 ⟨rfl, hbW13, rW13_0, rW13_1, rW13_2, fW13_0, fW13_1⟩
  refine fresh (C := fun x W => wpRun _ [] x W _) (fun x X => _ = X ∧ x.tmps.size = 18 ∧ x.defers = [] ∧ x.tmps[1]? = some (.pointer (some ⟨q1, 0, none⟩)) ∧ x.tmps[2]? = some (.pointer (some ⟨q3, 0, none⟩)) ∧ x.tmps[3]? = some (.pointer (some ⟨q6, 0, none⟩))) ⟨rfl, (by simp only [put_size]; exact hsz), (by simp only [put_defers]; exact hdf), (pf4 (by decide) s_1), (pf4 (by decide) s_2), (pf4 (by decide) s_3)⟩ ?_
  clear hsz hdf s_1 s_2 s_3
  rintro a _ ⟨rfl, hsz, hdf, s_1, s_2, s_3⟩
  refine ow_then ?_
  refine wp_seq ?_
  refine ow_region [_, _, _, _, _] rfl (by intro o ho; simp only [List.mem_cons, List.not_mem_nil, or_false] at ho; rcases ho with rfl | rfl | rfl | rfl | rfl <;> rfl) ?_
  refine ow_run 9 (.pointer (some ⟨q1, 22, none⟩)) _ rfl (run_fieldAddr (eval_of s_1) (by simp [go_sem, Instr.fieldAt])) ?_
  refine ow_run 10 (.slice aw nw cw) _ rfl (run_loadOp (eval_of (put_get _ _ _ (by rw [hsz]; decide))) (by simp [go_sem, Instr.loadAt, rW13_0.cell (j := 22) rfl])) ?_
  have hltw_q1 := rW13_0.2.2
  have hltw_q3 := rW13_1.2.2
  have hltw_q6 := rW13_2.2.2
  refine ow_call 11 (fun v X => ∃ ao cp, v = .slice ao m.ws.length cp ∧ Below W13.heap.size W13 X ∧ X.ownsRow W13.heap.size 93 2 (.slice ao m.ws.length cp) m.ws.length (m.ws.map rowWish).flatten) rfl _ _ (run_callOp Tryd.func48 rfl rfl (arr1 (eval_of (put_get _ _ _ (by simp only [put_size]; rw [hsz]; decide))))) ((copyWishes_any _ m.ws W13 hws (hL.below hbW13).w).mono fun e X h => own_open h) ?_
  rintro _ V16 ⟨a2w, c2w, rfl, hb15, how⟩
  refine fresh (C := fun x W => wpRun _ _ x W _) (fun x X => _ = x ∧ Below w.heap.size w X ∧ RowAt X q1 (Mq.row m (.slice ac nc cc) (.slice aw nw cw) (.slice af nf cf)) ∧ RowAt X q3 [.int .i64 0, .string { data := #[] }, .bool false, .int .i64 0, .bool false, .string { data := #[] }, .string { data := #[] }, .int .i64 0, .bool false, .string { data := #[] }, .bool false, .string { data := #[] }, .bool false, .bool false, .int .i64 0, .slice none 0 0, .bool false, .int .i64 0, .bool false, .string { data := #[] }, .int .i64 0, .string { data := #[] }, .slice none 0 0, .slice none 0 0] ∧ RowAt X q6 (Mq.row m (.slice a2c m.cs.length c2c) (.slice aw nw cw) (.slice af nf cf)) ∧ X.ownsRow W8.heap.size 3 1 (.slice a2c m.cs.length c2c) m.cs.length (m.cs.map (fun x => (.int .i64 x : Value))) ∧ W12.heap.size ≤ X.heap.size ∧ X.ownsRow W13.heap.size 93 2 (.slice a2w m.ws.length c2w) m.ws.length (m.ws.map rowWish).flatten) ⟨rfl, (hbW13.trans (hb15.mono hbW13.size)), (rW13_0.below hb15), (rW13_1.below hb15), (rW13_2.below hb15), (below_own fW13_0 hb15), (Nat.le_trans fW13_1 hb15.size), how⟩ ?_
  rintro _ W17 ⟨rfl, hbW17, rW17_0, rW17_1, rW17_2, fW17_0, fW17_1, fW17_2⟩
  have hlow : ∀ k, (Value.slice a2w m.ws.length c2w).ownBlock = some k → W13.heap.size ≤ k ∧ k < W17.heap.size := fun k hk => own_lt fW17_2 hk
  have hxwq1 : ∀ k, (Value.slice a2w m.ws.length c2w).ownBlock = some k → k ≠ q1 := fun k hk => by have h1 := hlow k hk; have h2 := hltw_q1; omega
  have hxwq3 : ∀ k, (Value.slice a2w m.ws.length c2w).ownBlock = some k → k ≠ q3 := fun k hk => by have h1 := hlow k hk; have h2 := hltw_q3; omega
  have hxwq6 : ∀ k, (Value.slice a2w m.ws.length c2w).ownBlock = some k → k ≠ q6 := fun k hk => by have h1 := hlow k hk; have h2 := hltw_q6; omega
  have hzw := Nat.le_refl W17.heap.size
  refine ow_run 12 (.pointer (some ⟨q6, 22, none⟩)) _ rfl (run_fieldAddr (eval_of (pf1 (by decide) (pf2 (by decide) s_3))) (by simp [go_sem, Instr.fieldAt])) ?_
  refine ow_skip _ rfl (run_storeOp (eval_of (put_get _ _ _ (by simp only [put_size]; rw [hsz]; decide))) (eval_of (pf1 (by decide) (put_get _ _ _ (by simp only [put_size]; rw [hsz]; decide)))) (run_store1 rW17_2 (by simp) (by kernel_rfl) rfl)) ?_
  refine fresh (C := fun x W => wpRun _ _ x W _) (fun x X => _ = x ∧ Below w.heap.size w X ∧ RowAt X q1 (Mq.row m (.slice ac nc cc) (.slice aw nw cw) (.slice af nf cf)) ∧ RowAt X q3 [.int .i64 0, .string { data := #[] }, .bool false, .int .i64 0, .bool false, .string { data := #[] }, .string { data := #[] }, .int .i64 0, .bool false, .string { data := #[] }, .bool false, .string { data := #[] }, .bool false, .bool false, .int .i64 0, .slice none 0 0, .bool false, .int .i64 0, .bool false, .string { data := #[] }, .int .i64 0, .string { data := #[] }, .slice none 0 0, .slice none 0 0] ∧ RowAt X q6 (Mq.row m (.slice a2c m.cs.length c2c) (.slice a2w m.ws.length c2w) (.slice af nf cf)) ∧ X.ownsRow W8.heap.size 3 1 (.slice a2c m.cs.length c2c) m.cs.length (m.cs.map (fun x => (.int .i64 x : Value))) ∧ W12.heap.size ≤ X.heap.size ∧ X.ownsRow W13.heap.size 93 2 (.slice a2w m.ws.length c2w) m.ws.length (m.ws.map rowWish).flatten ∧ W17.heap.size ≤ X.heap.size) ⟨rfl, (below_set1 hbW17 (by omega)), (rW17_0.other (by omega)), (rW17_1.other (by omega)), (rW17_2.set1 22 _ (by simp)), (own_set1 fW17_0 (fun hk => hxcq6 _ hk rfl)), (set1_size fW17_1), (own_set1 fW17_2 (fun hk => hxwq6 _ hk rfl)), (set1_size hzw)⟩ ?_
  rintro _ W18 ⟨rfl, hbW18, rW18_0, rW18_1, rW18_2, fW18_0, fW18_1, fW18_2, fW18_3⟩
  refine fresh (C := fun x W => wpRun _ [] x W _) (fun x X => _ = X ∧ x.tmps.size = 18 ∧ x.defers = [] ∧ x.tmps[1]? = some (.pointer (some ⟨q1, 0, none⟩)) ∧ x.tmps[2]? = some (.pointer (some ⟨q3, 0, none⟩)) ∧ x.tmps[3]? = some (.pointer (some ⟨q6, 0, none⟩))) ⟨rfl, (by simp only [put_size]; exact hsz), (by simp only [put_defers]; exact hdf), (pf4 (by decide) s_1), (pf4 (by decide) s_2), (pf4 (by decide) s_3)⟩ ?_
  clear hsz hdf s_1 s_2 s_3
  rintro a _ ⟨rfl, hsz, hdf, s_1, s_2, s_3⟩
  refine ow_then ?_
  refine wp_seq ?_
  refine ow_region [_, _, _, _, _] rfl (by intro o ho; simp only [List.mem_cons, List.not_mem_nil, or_false] at ho; rcases ho with rfl | rfl | rfl | rfl | rfl <;> rfl) ?_
  refine ow_run 13 (.pointer (some ⟨q1, 23, none⟩)) _ rfl (run_fieldAddr (eval_of s_1) (by simp [go_sem, Instr.fieldAt])) ?_
  refine ow_run 14 (.slice af nf cf) _ rfl (run_loadOp (eval_of (put_get _ _ _ (by rw [hsz]; decide))) (by simp [go_sem, Instr.loadAt, rW18_0.cell (j := 23) rfl])) ?_
  have hltf_q1 := rW18_0.2.2
  have hltf_q3 := rW18_1.2.2
  have hltf_q6 := rW18_2.2.2
  refine ow_call 15 (fun v X => ∃ ao cp, v = .slice ao m.fs.length cp ∧ Below W18.heap.size W18 X ∧ X.ownsRow W18.heap.size 9 1 (.slice ao m.fs.length cp) m.fs.length (m.fs.map (fun x => (.string x : Value)))) rfl _ _ (run_callOp Tryd.func49 rfl rfl (arr1 (eval_of (put_get _ _ _ (by simp only [put_size]; rw [hsz]; decide))))) ((copyStrings_any _ m.fs W18 hfs (hL.below hbW18).f).mono fun e X h => own_open h) ?_
  rintro _ V21 ⟨a2f, c2f, rfl, hb20, hof⟩
  refine fresh (C := fun x W => wpRun _ _ x W _) (fun x X => _ = x ∧ Below w.heap.size w X ∧ RowAt X q1 (Mq.row m (.slice ac nc cc) (.slice aw nw cw) (.slice af nf cf)) ∧ RowAt X q3 [.int .i64 0, .string { data := #[] }, .bool false, .int .i64 0, .bool false, .string { data := #[] }, .string { data := #[] }, .int .i64 0, .bool false, .string { data := #[] }, .bool false, .string { data := #[] }, .bool false, .bool false, .int .i64 0, .slice none 0 0, .bool false, .int .i64 0, .bool false, .string { data := #[] }, .int .i64 0, .string { data := #[] }, .slice none 0 0, .slice none 0 0] ∧ RowAt X q6 (Mq.row m (.slice a2c m.cs.length c2c) (.slice a2w m.ws.length c2w) (.slice af nf cf)) ∧ X.ownsRow W8.heap.size 3 1 (.slice a2c m.cs.length c2c) m.cs.length (m.cs.map (fun x => (.int .i64 x : Value))) ∧ W12.heap.size ≤ X.heap.size ∧ X.ownsRow W13.heap.size 93 2 (.slice a2w m.ws.length c2w) m.ws.length (m.ws.map rowWish).flatten ∧ W17.heap.size ≤ X.heap.size ∧ X.ownsRow W18.heap.size 9 1 (.slice a2f m.fs.length c2f) m.fs.length (m.fs.map (fun x => (.string x : Value)))) ⟨rfl, (hbW18.trans (hb20.mono hbW18.size)), (rW18_0.below hb20), (rW18_1.below hb20), (rW18_2.below hb20), (below_own fW18_0 hb20), (Nat.le_trans fW18_1 hb20.size), (below_own fW18_2 hb20), (Nat.le_trans fW18_3 hb20.size), hof⟩ ?_
  rintro _ W22 ⟨rfl, hbW22, rW22_0, rW22_1, rW22_2, fW22_0, fW22_1, fW22_2, fW22_3, fW22_4⟩
  have hlof : ∀ k, (Value.slice a2f m.fs.length c2f).ownBlock = some k → W18.heap.size ≤ k ∧ k < W22.heap.size := fun k hk => own_lt fW22_4 hk
  have hxfq1 : ∀ k, (Value.slice a2f m.fs.length c2f).ownBlock = some k → k ≠ q1 := fun k hk => by have h1 := hlof k hk; have h2 := hltf_q1; omega
  have hxfq3 : ∀ k, (Value.slice a2f m.fs.length c2f).ownBlock = some k → k ≠ q3 := fun k hk => by have h1 := hlof k hk; have h2 := hltf_q3; omega
  have hxfq6 : ∀ k, (Value.slice a2f m.fs.length c2f).ownBlock = some k → k ≠ q6 := fun k hk => by have h1 := hlof k hk; have h2 := hltf_q6; omega
  have hzf := Nat.le_refl W22.heap.size
  refine ow_run 16 (.pointer (some ⟨q6, 23, none⟩)) _ rfl (run_fieldAddr (eval_of (pf1 (by decide) (pf2 (by decide) s_3))) (by simp [go_sem, Instr.fieldAt])) ?_
  refine ow_skip _ rfl (run_storeOp (eval_of (put_get _ _ _ (by simp only [put_size]; rw [hsz]; decide))) (eval_of (pf1 (by decide) (put_get _ _ _ (by simp only [put_size]; rw [hsz]; decide)))) (run_store1 rW22_2 (by simp) (by kernel_rfl) rfl)) ?_
  refine fresh (C := fun x W => wpRun _ _ x W _) (fun x X => _ = x ∧ Below w.heap.size w X ∧ RowAt X q1 (Mq.row m (.slice ac nc cc) (.slice aw nw cw) (.slice af nf cf)) ∧ RowAt X q3 [.int .i64 0, .string { data := #[] }, .bool false, .int .i64 0, .bool false, .string { data := #[] }, .string { data := #[] }, .int .i64 0, .bool false, .string { data := #[] }, .bool false, .string { data := #[] }, .bool false, .bool false, .int .i64 0, .slice none 0 0, .bool false, .int .i64 0, .bool false, .string { data := #[] }, .int .i64 0, .string { data := #[] }, .slice none 0 0, .slice none 0 0] ∧ RowAt X q6 (Mq.row m (.slice a2c m.cs.length c2c) (.slice a2w m.ws.length c2w) (.slice a2f m.fs.length c2f)) ∧ X.ownsRow W8.heap.size 3 1 (.slice a2c m.cs.length c2c) m.cs.length (m.cs.map (fun x => (.int .i64 x : Value))) ∧ W12.heap.size ≤ X.heap.size ∧ X.ownsRow W13.heap.size 93 2 (.slice a2w m.ws.length c2w) m.ws.length (m.ws.map rowWish).flatten ∧ W17.heap.size ≤ X.heap.size ∧ X.ownsRow W18.heap.size 9 1 (.slice a2f m.fs.length c2f) m.fs.length (m.fs.map (fun x => (.string x : Value))) ∧ W22.heap.size ≤ X.heap.size) ⟨rfl, (below_set1 hbW22 (by omega)), (rW22_0.other (by omega)), (rW22_1.other (by omega)), (rW22_2.set1 23 _ (by simp)), (own_set1 fW22_0 (fun hk => hxcq6 _ hk rfl)), (set1_size fW22_1), (own_set1 fW22_2 (fun hk => hxwq6 _ hk rfl)), (set1_size fW22_3), (own_set1 fW22_4 (fun hk => hxfq6 _ hk rfl)), (set1_size hzf)⟩ ?_
  rintro _ W23 ⟨rfl, hbW23, rW23_0, rW23_1, rW23_2, fW23_0, fW23_1, fW23_2, fW23_3, fW23_4, fW23_5⟩
  refine fresh (C := fun x W => wpRun _ [] x W _) (fun x X => _ = X ∧ x.tmps.size = 18 ∧ x.defers = [] ∧ x.tmps[2]? = some (.pointer (some ⟨q3, 0, none⟩)) ∧ x.tmps[3]? = some (.pointer (some ⟨q6, 0, none⟩))) ⟨rfl, (by simp only [put_size]; exact hsz), (by simp only [put_defers]; exact hdf), (pf4 (by decide) s_2), (pf4 (by decide) s_3)⟩ ?_
  clear hsz hdf s_1 s_2 s_3
  rintro a _ ⟨rfl, hsz, hdf, s_2, s_3⟩
  refine ow_then ?_
  refine wp_seq ?_
  refine ow_region [_, _] rfl (by intro o ho; simp only [List.mem_cons, List.not_mem_nil, or_false] at ho; rcases ho with rfl | rfl <;> rfl) ?_
  refine ow_run 17 (.agg (Mq.row m (.slice a2c m.cs.length c2c) (.slice a2w m.ws.length c2w) (.slice a2f m.fs.length c2f)).toArray) _ rfl (run_loadOp (eval_of s_3) (run_loadN [.int .i64 m.k, .string m.cl, .bool m.clean, .int .i64 m.keep, .bool m.wI, .string m.wT, .string m.wP, .int .i64 m.wQ, .bool m.wR, .string m.us, .bool m.hu, .string m.pa, .bool m.hp, .bool m.pres, .int .i64 m.code, .slice a2c m.cs.length c2c, .bool m.dup, .int .i64 m.q, .bool m.re, .string m.top, .int .i64 m.id, .string m.pay, .slice a2w m.ws.length c2w, .slice a2f m.fs.length c2f] rW23_2 (fun j v hj => by simpa using hj) Tryd.underlying30 rfl (by kernel_rfl))) ?_
  refine ow_skip _ rfl (run_storeOp (eval_of (pf1 (by decide) s_2)) (eval_of (put_get _ _ _ (by rw [hsz]; decide))) (run_storeN (xs := [.int .i64 m.k, .string m.cl, .bool m.clean, .int .i64 m.keep, .bool m.wI, .string m.wT, .string m.wP, .int .i64 m.wQ, .bool m.wR, .string m.us, .bool m.hu, .string m.pa, .bool m.hp, .bool m.pres, .int .i64 m.code, .slice a2c m.cs.length c2c, .bool m.dup, .int .i64 m.q, .bool m.re, .string m.top, .int .i64 m.id, .string m.pay, .slice a2w m.ws.length c2w, .slice a2f m.fs.length c2f]) rW23_1 (by simp) (by kernel_rfl) rfl)) ?_
  refine fresh (C := fun x W => wpRun _ _ x W _) (fun x X => _ = x ∧ Below w.heap.size w X ∧ RowAt X q1 (Mq.row m (.slice ac nc cc) (.slice aw nw cw) (.slice af nf cf)) ∧ RowAt X q3 (Mq.row m (.slice a2c m.cs.length c2c) (.slice a2w m.ws.length c2w) (.slice a2f m.fs.length c2f)) ∧ RowAt X q6 (Mq.row m (.slice a2c m.cs.length c2c) (.slice a2w m.ws.length c2w) (.slice a2f m.fs.length c2f)) ∧ X.ownsRow W8.heap.size 3 1 (.slice a2c m.cs.length c2c) m.cs.length (m.cs.map (fun x => (.int .i64 x : Value))) ∧ W12.heap.size ≤ X.heap.size ∧ X.ownsRow W13.heap.size 93 2 (.slice a2w m.ws.length c2w) m.ws.length (m.ws.map rowWish).flatten ∧ W17.heap.size ≤ X.heap.size ∧ X.ownsRow W18.heap.size 9 1 (.slice a2f m.fs.length c2f) m.fs.length (m.fs.map (fun x => (.string x : Value))) ∧ W22.heap.size ≤ X.heap.size) ⟨rfl, (below_sets (by omega) _ _ _ hbW23), (RowAt.sets_other _ _ _ rW23_0 (by omega)), (RowAt.sets [.int .i64 m.k, .string m.cl, .bool m.clean, .int .i64 m.keep, .bool m.wI, .string m.wT, .string m.wP, .int .i64 m.wQ, .bool m.wR, .string m.us, .bool m.hu, .string m.pa, .bool m.hp, .bool m.pres, .int .i64 m.code, .slice a2c m.cs.length c2c, .bool m.dup, .int .i64 m.q, .bool m.re, .string m.top, .int .i64 m.id, .string m.pay, .slice a2w m.ws.length c2w, .slice a2f m.fs.length c2f] 0 _ _ rW23_1 (by simp)), (RowAt.sets_other _ _ _ rW23_2 (by omega)), (own_setN _ _ _ fW23_0 (fun hk => hxcq3 _ hk rfl)), (setN_size fW23_1), (own_setN _ _ _ fW23_2 (fun hk => hxwq3 _ hk rfl)), (setN_size fW23_3), (own_setN _ _ _ fW23_4 (fun hk => hxfq3 _ hk rfl)), (setN_size fW23_5)⟩ ?_
  rintro _ W25 ⟨rfl, hbW25, rW25_0, rW25_1, rW25_2, fW25_0, fW25_1, fW25_2, fW25_3, fW25_4, fW25_5⟩
  refine fresh (C := fun x W => wpRun _ [] x W _) (fun x X => _ = X ∧ x.tmps.size = 18 ∧ x.defers = [] ∧ x.tmps[2]? = some (.pointer (some ⟨q3, 0, none⟩))) ⟨rfl, (by simp only [put_size]; exact hsz), (by simp only [put_defers]; exact hdf), (pf1 (by decide) s_2)⟩ ?_
  clear hsz hdf s_2 s_3
  rintro a _ ⟨rfl, hsz, hdf, s_2⟩
  refine ow_then ?_
  refine wp_ret ?_
  exact ow_retCell1 rfl hdf s_2 (run_loadVar_mid _ _ 0 _ [.int .i64 m.k, .string m.cl, .bool m.clean, .int .i64 m.keep, .bool m.wI, .string m.wT, .string m.wP, .int .i64 m.wQ, .bool m.wR, .string m.us, .bool m.hu, .string m.pa, .bool m.hp, .bool m.pres, .int .i64 m.code, .slice a2c m.cs.length c2c, .bool m.dup, .int .i64 m.q, .bool m.re, .string m.top, .int .i64 m.id, .string m.pay, .slice a2w m.ws.length c2w, .slice a2f m.fs.length c2f] _ (rW25_1.range 0 _ (fun j v hj => by simpa using hj)) Tryd.underlying30 rfl (by kernel_rfl)) ⟨_, _, _, rfl, hbW25, own_mono fW25_0 hbW8.size, own_mono fW25_2 hbW13.size, own_mono fW25_4 hbW18.size, fun k h1 h2 => by have g1 := hloc k h1; have g2 := hlow k h2; omega, fun k h1 h2 => by have g1 := hloc k h1; have g2 := hlof k h2; omega, fun k h1 h2 => by have g1 := hlow k h1; have g2 := hlof k h2; omega⟩
end Go.Proofs.YtpgnlhfokffioaaDoor
