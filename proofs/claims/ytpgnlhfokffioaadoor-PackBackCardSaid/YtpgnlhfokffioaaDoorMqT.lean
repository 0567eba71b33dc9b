/-
  What is wanted of a kind of packets, for the law of its kind.
  How much a packet weighs: of what is not too heavy nothing is long.
-/
import Derived.Test.YtpgnlhfokffioaaDoorMqR
import Derived.Test.YtpgnlhfokffioaaDoorOw2
namespace Go.Proofs.YtpgnlhfokffioaaDoor
open Go.RowKit
theorem eqB_refl (m : Mq) : m.eqB m = true := by simp [Mq.eqB]
/-- Nothing of a packet is long. -/
structure Mq.Near (B : Nat) (m : Mq) : Prop where
  cl : m.cl.size ≤ B
  wT : m.wT.size ≤ B
  wP : m.wP.size ≤ B
  us : m.us.size ≤ B
  pa : m.pa.size ≤ B
  cs : m.cs.length ≤ B
  top : m.top.size ≤ B
  pay : m.pay.size ≤ B
  ws : m.ws.length ≤ B
  fs : m.fs.length ≤ B
  wsf : ∀ s ∈ m.ws, s.f.size ≤ B
  fsf : ∀ s ∈ m.fs, s.size ≤ B
theorem Mq.Near.mono {B B' : Nat} {m : Mq} (h : m.Near B) (hb : B ≤ B') : m.Near B' :=
  ⟨Nat.le_trans h.cl hb, Nat.le_trans h.wT hb, Nat.le_trans h.wP hb, Nat.le_trans h.us hb, Nat.le_trans h.pa hb, Nat.le_trans h.cs hb, Nat.le_trans h.top hb, Nat.le_trans h.pay hb, Nat.le_trans h.ws hb, Nat.le_trans h.fs hb,
    fun s hs => Nat.le_trans (h.wsf s hs) hb, fun s hs => Nat.le_trans (h.fsf s hs) hb⟩
/-- The first byte turned. -/
def flipB (l : List UInt8) (j : UInt8) : List UInt8 := match l with
  | [] => []
  | x :: t => (x ^^^ j) :: t
/-- A kind of packets: whether one may be, its bytes, as the code and as the reference have them. -/
structure KindOK (k : Int) (mayB : Mq → Bool) (enc : Mq → List UInt8) : Prop where
  len : ∀ m, mayB m = true → m.k = k → 2 ≤ (enc m).length ∧ (enc m).length ≤ 100000
  head : ∀ m x l, mayB m = true → m.k = k → enc m = x :: l → (x.toNat : Int) / 16 = k
  bytes : ∀ (m : Mq) vc vw vf w, m.k = k → m.Near 4000 → m.Lists w vc vw vf → Calls Tryd.prog 24 #[m.val vc vw vf] w fun e w' => ∃ v, e = .returned (.tuple #[v, .int .i64 (if mayB m = true then 0 else 1)]) ∧ Below w.heap.size w w' ∧ (mayB m = true → Sl w' v (enc m))
  check : ∀ (m : Mq) vc vw vf w, m.k = k → m.Near 4000 → m.Lists w vc vw vf → Calls Tryd.prog 26 #[m.val vc vw vf] w fun e w' => e = .returned (.int .i64 (if mayB m = true then 0 else 1)) ∧ Below w.heap.size w w'
  may : ∀ (m : Mq) vc vw vf w, m.k = k → m.Near 4000 → m.Lists w vc vw vf → Calls Tryd.prog 25 #[m.val vc vw vf] w fun e w' => e = .returned (.bool (mayB m)) ∧ Below w.heap.size w w'
  rbytes : ∀ (m : Mq) vc vw vf w, m.k = k → m.Near 4000 → mayB m = true → m.Lists w vc vw vf → Calls Tryd.prog 27 #[m.val vc vw vf] w fun e w' => ∃ v, e = .returned v ∧ Below w.heap.size w w' ∧ Sl w' v (enc m)
  parse : ∀ (m : Mq) v w, m.k = k → m.Near 4000 → mayB m = true → Sl w v (enc m) → Calls Tryd.prog 16 #[v] w fun e w' => ∃ vc vw vf, e = .returned (.tuple #[m.val vc vw vf, .int .i64 ((enc m).length : Int), .int .i64 0]) ∧ Below w.heap.size w w' ∧ m.Lists w' vc vw vf
  flip : ∀ (m : Mq) (j : UInt8), m.k = k → m.Near 4000 → mayB m = true → 0 < j.toNat → j.toNat < 16 → ∃ ev : Int,
    (∀ v w, Sl w v (flipB (enc m) j) → Calls Tryd.prog 16 #[v] w fun e w' => ∃ (m2 : Mq) (ac aw af : Option Addr) (nc nw nf cc cw cf : Nat) (n : Int), e = .returned (.tuple #[m2.val (.slice ac nc cc) (.slice aw nw cw) (.slice af nf cf), .int .i64 n, .int .i64 ev]) ∧ Below w.heap.size w w') ∧
    (∀ v w, Sl w v (flipB (enc m) j) → Calls Tryd.prog 17 #[v] w fun e w' => ∃ (m2 : Mq) (ac aw af : Option Addr) (nc nw nf cc cw cf : Nat) (n : Int), e = .returned (.tuple #[m2.val (.slice ac nc cc) (.slice aw nw cw) (.slice af nf cf), .int .i64 n, .int .i64 ev]) ∧ Below w.heap.size w w')
theorem addI (x y : Int) (w : World) (h1 : -9223372036854775808 ≤ x + y) (h2 : x + y < 9223372036854775808) : (binOp .add 3 (.int .i64 x) (.int .i64 y)).run Tryd.prog w = .ok (.int .i64 (x + y)) w := by
  have := wrap_i64 (x + y) h1 h2
  simp [go_sem, this]
set_option maxRecDepth 100000 in
set_option maxHeartbeats 1000000 in
theorem textW_any (v : Value) (l : List ByteArray) (w : World) (hl : l.length ≤ far) (hb : ∀ s ∈ l, s.size ≤ far) (hv : SlR w 1 v (l.map cs1)) :
    Calls Tryd.prog 66 #[v] w fun e w' => ∃ n : Nat, e = .returned (.int .i64 (n : Int)) ∧ l.length ≤ n ∧ n ≤ 281474976710656 ∧ (n ≤ 3000 → ∀ s ∈ l, s.size ≤ n) ∧ w = w' := by
  obtain ⟨ao, cap, rfl, hcl, hcm, -, hB⟩ := hv
  simp only [List.length_map] at hB hcl ⊢
  have HB := Lib.hid hB; clear hB
  have HL := Lib.hid hb; clear hb
  have hl' : l.length ≤ 140737488351232 := hl
  clear hl hcl hcm
  go_enter Tryd.func66, Tryd.ntmps66
  go_wp2
  go_loop [3, 4] (fun m i => ∃ (k n : Nat), k ≤ l.length ∧ i = .int .i64 k ∧ m = .int .i64 n ∧ l.length ≤ n ∧ n ≤ 281474976710656 ∧ (∀ s ∈ l.take k, s.size ≤ n)) (fun _ i => l.length - (intOf i).toNat)
  case atStart => exact ⟨0, l.length, by omega, rfl, rfl, Nat.le_refl _, by omega, by simp⟩
  case round =>
    obtain ⟨k, n, hk, rfl, rfl, hn1, hn2, hs⟩ := hrel
    have HS := Lib.hid hs; clear hs
    by_cases hlt : k < l.length
    · have hlt' : (k : Int) < (l.length : Int) := by omega
      by_cases hn : (n : Int) < 1048576
      · obtain ⟨b, off, rfl, hbw, hBB⟩ := HB.out (by intro h; simp at h; simp [h] at hlt)
        obtain ⟨x, hx⟩ : ∃ x, l[k]? = some x := ⟨_, List.getElem?_eq_getElem hlt⟩
        have hcx : w.cell? ⟨b, off + k, none⟩ = some (.string x) := by
          have := hBB k (cs1 x) (by rw [List.getElem?_map, hx]; rfl) 0 _ rfl
          simpa using this
        have hxm : x.size ≤ 140737488351232 := HL.out x (List.mem_of_getElem? hx)
        have HX := Lib.hid hx; clear hx hBB
        go_wp2
        go_round
        case rel =>
          refine ⟨k + 1, n + x.size, by omega, by go_num, ?_, by omega, by omega, ?_⟩
          · first | rfl | (congr 1; done) | (congr 1; rw [wrap_i64 _ (by omega) (by omega)]; try omega)
          · intro s hs
            rw [List.take_add_one, HX.out] at hs
            rcases List.mem_append.1 hs with h | h
            · have := HS.out s h; omega
            · obtain rfl : s = x := by simpa using h
              omega
        case measure => simp [intOf]; omega
      · have HN := Lib.hid (show ¬ n ≤ 3000 by omega)
        go_wp2
        go_ret
        exact ⟨n, rfl, hn1, hn2, fun h => (HN.out h).elim, rfl⟩
    · have hlt' : ¬ (k : Int) < (l.length : Int) := by omega
      have HT := Lib.hid (show l.take k = l from List.take_of_length_le (by omega))
      clear HB
      go_wp2
      go_ret
      exact ⟨n, rfl, hn1, hn2, fun _ s hs => HS.out s (by rw [HT.out]; exact hs), rfl⟩
set_option maxRecDepth 100000 in
set_option maxHeartbeats 1000000 in
theorem wishesW_any (v : Value) (l : List EWish) (w : World) (hl : l.length ≤ far) (hb : ∀ s ∈ l, s.f.size ≤ far) (hv : SlR w 2 v (l.map rowWish)) :
    Calls Tryd.prog 65 #[v] w fun e w' => ∃ n : Nat, e = .returned (.int .i64 (n : Int)) ∧ l.length ≤ n ∧ n ≤ 281474976710656 ∧ (n ≤ 3000 → ∀ s ∈ l, s.f.size ≤ n) ∧ w = w' := by
  obtain ⟨ao, cap, rfl, hcl, hcm, -, hB⟩ := hv
  simp only [List.length_map] at hB hcl ⊢
  have HB := Lib.hid hB; clear hB
  have HL := Lib.hid hb; clear hb
  have hl' : l.length ≤ 140737488351232 := hl
  clear hl hcl hcm
  go_enter Tryd.func65, Tryd.ntmps65
  go_wp2
  go_loop [3, 4] (fun m i => ∃ (k n : Nat), k ≤ l.length ∧ i = .int .i64 k ∧ m = .int .i64 n ∧ l.length ≤ n ∧ n ≤ 281474976710656 ∧ (∀ s ∈ l.take k, s.f.size ≤ n)) (fun _ i => l.length - (intOf i).toNat)
  case atStart => exact ⟨0, l.length, by omega, rfl, rfl, Nat.le_refl _, by omega, by simp⟩
  case round =>
    obtain ⟨k, n, hk, rfl, rfl, hn1, hn2, hs⟩ := hrel
    have HS := Lib.hid hs; clear hs
    by_cases hlt : k < l.length
    · have hlt' : (k : Int) < (l.length : Int) := by omega
      by_cases hn : (n : Int) < 1048576
      · obtain ⟨b, off, rfl, hbw, hBB⟩ := HB.out (by intro h; simp at h; simp [h] at hlt)
        obtain ⟨x, hx⟩ : ∃ x, l[k]? = some x := ⟨_, List.getElem?_eq_getElem hlt⟩
        have hcx : w.cell? ⟨b, off + k * 2, none⟩ = some (.string x.f) := by
          have := hBB k (rowWish x) (by rw [List.getElem?_map, hx]; rfl) 0 _ rfl
          simpa using this
        have hxm : x.f.size ≤ 140737488351232 := HL.out x (List.mem_of_getElem? hx)
        have HX := Lib.hid hx; clear hx hBB
        go_wp2
        go_round
        case rel =>
          refine ⟨k + 1, n + x.f.size, by omega, by go_num, ?_, by omega, by omega, ?_⟩
          · first | rfl | (congr 1; done) | (congr 1; rw [wrap_i64 _ (by omega) (by omega)]; try omega)
          · intro s hs
            rw [List.take_add_one, HX.out] at hs
            rcases List.mem_append.1 hs with h | h
            · have := HS.out s h; omega
            · obtain rfl : s = x := by simpa using h
              omega
        case measure => simp [intOf]; omega
      · have HN := Lib.hid (show ¬ n ≤ 3000 by omega)
        go_wp2
        go_ret
        exact ⟨n, rfl, hn1, hn2, fun h => (HN.out h).elim, rfl⟩
    · have hlt' : ¬ (k : Int) < (l.length : Int) := by omega
      have HT := Lib.hid (show l.take k = l from List.take_of_length_le (by omega))
      clear HB
      go_wp2
      go_ret
      exact ⟨n, rfl, hn1, hn2, fun _ s hs => HS.out s (by rw [HT.out]; exact hs), rfl⟩
set_option maxRecDepth 100000 in
set_option maxHeartbeats 4000000 in
theorem mqWeight_any (m : Mq) (vc vw vf : Value) (w : World) (hF : m.Far) (hL : m.Lists w vc vw vf) :
    Calls Tryd.prog 35 #[m.val vc vw vf] w fun e w' => ∃ n : Int, e = .returned (.int .i64 n) ∧ Below w.heap.size w w' ∧ 0 ≤ n ∧ (n ≤ 3000 → m.Near 3000) := by
  have hb0 := Below.refl w.heap.size w
  obtain ⟨ac, cc, rfl, -, -, -, -⟩ := id hL.c
  obtain ⟨aw, cw, rfl, -, -, -, -⟩ := id hL.w
  obtain ⟨af, cf, rfl, -, -, -, -⟩ := id hL.f
  obtain ⟨b1, b2, b3, b4, b5, b6, b7, b8, b9, b10, b11, b12⟩ := id hF
  obtain ⟨nc, hnc⟩ : ∃ n, n = (m.cs.map cn).length := ⟨_, rfl⟩
  obtain ⟨nw, hnw⟩ : ∃ n, n = (m.ws.map rowWish).length := ⟨_, rfl⟩
  obtain ⟨nf, hnf⟩ : ∃ n, n = (m.fs.map cs1).length := ⟨_, rfl⟩
  rw [← hnc, ← hnw, ← hnf] at hL ⊢
  have hnc' : nc = m.cs.length := by rw [hnc, List.length_map]
  have Cw : ∀ W, Below w.heap.size w W → Calls Tryd.prog 65 #[.slice aw nw cw] W fun e X => ∃ v, e = .returned v ∧ ∃ n : Nat, v = .int .i64 (n : Int) ∧ m.ws.length ≤ n ∧ n ≤ 281474976710656 ∧ (n ≤ 3000 → ∀ s ∈ m.ws, s.f.size ≤ n) ∧ W = X :=
    fun W hb => (wishesW_any _ m.ws W b9 b11 (hL.below hb).w).mono fun e X ⟨n, he, h⟩ => ⟨_, he, n, rfl, h⟩
  have Cf : ∀ W, Below w.heap.size w W → Calls Tryd.prog 66 #[.slice af nf cf] W fun e X => ∃ v, e = .returned v ∧ ∃ n : Nat, v = .int .i64 (n : Int) ∧ m.fs.length ≤ n ∧ n ≤ 281474976710656 ∧ (n ≤ 3000 → ∀ s ∈ m.fs, s.size ≤ n) ∧ W = X :=
    fun W hb => (textW_any _ m.fs W b10 b12 (hL.below hb).f).mono fun e X ⟨n, he, h⟩ => ⟨_, he, n, rfl, h⟩
  have hnc6 : nc ≤ far := by rw [hnc']; exact b6
  simp only [far] at b1 b2 b3 b4 b5 hnc6 b7 b8
  have HF : ∀ zw zf : Nat, m.ws.length ≤ zw → m.fs.length ≤ zf → (zw ≤ 3000 → ∀ s ∈ m.ws, s.f.size ≤ zw) → (zf ≤ 3000 → ∀ s ∈ m.fs, s.size ≤ zf) → ((((((((((m.cl.size : Int) + (m.wT.size : Int)) + (m.wP.size : Int)) + (m.us.size : Int)) + (m.pa.size : Int)) + ((nc : Nat) : Int)) + (m.top.size : Int)) + (m.pay.size : Int)) + (zw : Int)) + (zf : Int)) ≤ 3000 → m.Near 3000 := by
    intro zw zf h1 h2 h3 h4 h5
    exact ⟨by omega, by omega, by omega, by omega, by omega, by omega, by omega, by omega, by omega, by omega, fun s hs => Nat.le_trans (h3 (by omega) s hs) (by omega), fun s hs => Nat.le_trans (h4 (by omega) s hs) (by omega)⟩
  have HF := Lib.hid HF
  clear hnc hnw hnf b6 b9 b10 b11 b12
  refine ow_enter 44 Tryd.func35 rfl Tryd.ntmps35 (by simp) ?_
  rintro a hsz hdf hargs
  have s_0 : a.tmps[0]? = some (.agg (Mq.row m (.slice ac nc cc) (.slice aw nw cw) (.slice af nf cf)).toArray) := hargs 0 _ rfl
  clear hargs
  refine wp_seq ?_
  refine ow_region [_, _] rfl (by intro o ho; simp only [List.mem_cons, List.not_mem_nil, or_false] at ho; rcases ho with rfl | rfl <;> rfl) ?_
  obtain ⟨q1, hq1⟩ : ∃ x, x = w.heap.size := ⟨_, rfl⟩
  refine ow_run 1 (.pointer (some ⟨q1, 0, none⟩)) (w.alloc (.cells #[.int .i64 m.k, .string m.cl, .bool m.clean, .int .i64 m.keep, .bool m.wI, .string m.wT, .string m.wP, .int .i64 m.wQ, .bool m.wR, .string m.us, .bool m.hu, .string m.pa, .bool m.hp, .bool m.pres, .int .i64 m.code, .slice ac nc cc, .bool m.dup, .int .i64 m.q, .bool m.re, .string m.top, .int .i64 m.id, .string m.pay, .slice aw nw cw, .slice af nf cf] 30)) rfl (by rw [hq1]; exact (run_boxOp (eval_of s_0) (by simp [go_sem, Instr.box]))) ?_
  have hqq1 : w.heap.size ≤ q1 := by rw [hq1]; exact hb0.size
  refine fresh (C := fun x W => wpRun _ _ x W _) (fun x X => _ = x ∧ Below w.heap.size w X ∧ RowAt X q1 (Mq.row m (.slice ac nc cc) (.slice aw nw cw) (.slice af nf cf))) ⟨rfl, (hb0.alloc hb0.size _), (by rw [hq1]; exact rowAt_alloc _ [.int .i64 m.k, .string m.cl, .bool m.clean, .int .i64 m.keep, .bool m.wI, .string m.wT, .string m.wP, .int .i64 m.wQ, .bool m.wR, .string m.us, .bool m.hu, .string m.pa, .bool m.hp, .bool m.pres, .int .i64 m.code, .slice ac nc cc, .bool m.dup, .int .i64 m.q, .bool m.re, .string m.top, .int .i64 m.id, .string m.pay, .slice aw nw cw, .slice af nf cf] _)⟩ ?_
  rintro _ W2 ⟨rfl, hbW2, rW2_0⟩
  clear hq1
  refine ow_run 2 (.int .i64 0) _ rfl (run_assignOp (eval_cst _ _)) ?_
  refine fresh (C := fun x W => wpRun _ [] x W _) (fun x X => _ = X ∧ x.tmps.size = 44 ∧ x.defers = [] ∧ x.tmps[1]? = some (.pointer (some ⟨q1, 0, none⟩))) ⟨rfl, (by simp only [put_size]; exact hsz), (by simp only [put_defers]; exact hdf), (pf1 (by decide) (put_get _ _ _ (by rw [hsz]; decide)))⟩ ?_
  clear hsz hdf s_0
  rintro a _ ⟨rfl, hsz, hdf, s_1⟩
  refine ow_then ?_
  refine wp_seq ?_
  refine ah_region (fun W => Below w.heap.size w W ∧ RowAt W q1 (Mq.row m (.slice ac nc cc) (.slice aw nw cw) (.slice af nf cf))) (by kernel_rfl) 42 rfl ?_
  refine fresh (C := fun x W => AH _ _ _ _ _ _ x W) (fun x X => _ = x ∧ Below w.heap.size w X ∧ RowAt X q1 (Mq.row m (.slice ac nc cc) (.slice aw nw cw) (.slice af nf cf))) ⟨rfl, (hbW2.trans (((Below.refl _ W2).drew).mono hbW2.size)), (rW2_0.below ((Below.refl _ W2).drew))⟩ ?_
  rintro _ W4 ⟨rfl, hbW4, rW4_0⟩
  refine ah_takeW 0 3 (.pointer (some ⟨q1, 1, none⟩)) rfl (wanted_none rfl) rfl (by kernel_rfl) (by kernel_rfl) (by kernel_rfl) (fun _ _ _ h => h) ⟨hbW4, rW4_0⟩ (fun W hW => by (try obtain ⟨hbW4, rW4_0⟩ := hW); exact (run_fieldAddr (eval_of s_1) (by simp [go_sem, Instr.fieldAt]))) ?_
  refine ah_takeW 1 4 (.string m.cl) rfl (wanted_none rfl) rfl (by kernel_rfl) (by kernel_rfl) (by kernel_rfl) (fun _ _ _ h => h) ⟨hbW4, rW4_0⟩ (fun W hW => by (try obtain ⟨hbW4, rW4_0⟩ := hW); exact (run_loadOp (eval_of (put_get _ _ _ (by rw [hsz]; decide))) (by simp [go_sem, Instr.loadAt, rW4_0.cell (j := 1) rfl]))) ?_
  refine ah_takeW 2 5 (.int .i64 (m.cl.size : Int)) rfl (wanted_none rfl) rfl (by kernel_rfl) (by kernel_rfl) (by kernel_rfl) (fun _ _ _ h => h) ⟨hbW4, rW4_0⟩ (fun W hW => by (try obtain ⟨hbW4, rW4_0⟩ := hW); exact (run_lenStr Tryd.underlying9 (eval_of (put_get _ _ _ (by simp only [put_size]; rw [hsz]; decide))))) ?_
  refine ah_takeW 3 6 (.pointer (some ⟨q1, 4, none⟩)) rfl (wanted_none rfl) rfl (by kernel_rfl) (by kernel_rfl) (by kernel_rfl) (fun _ _ _ h => h) ⟨hbW4, rW4_0⟩ (fun W hW => by (try obtain ⟨hbW4, rW4_0⟩ := hW); exact (run_fieldAddr (eval_of (pf1 (by decide) (pf2 (by decide) s_1))) (by simp [go_sem, Instr.fieldAt]))) ?_
  refine ah_takeW 4 7 (.pointer (some ⟨q1, 5, none⟩)) rfl (wanted_none rfl) rfl (by kernel_rfl) (by kernel_rfl) (by kernel_rfl) (fun _ _ _ h => h) ⟨hbW4, rW4_0⟩ (fun W hW => by (try obtain ⟨hbW4, rW4_0⟩ := hW); exact (run_fieldAddr (eval_of (put_get _ _ _ (by simp only [put_size]; rw [hsz]; decide))) (by simp [go_sem, Instr.fieldAt]))) ?_
  refine ah_takeW 5 8 (.string m.wT) rfl (wanted_none rfl) rfl (by kernel_rfl) (by kernel_rfl) (by kernel_rfl) (fun _ _ _ h => h) ⟨hbW4, rW4_0⟩ (fun W hW => by (try obtain ⟨hbW4, rW4_0⟩ := hW); exact (run_loadOp (eval_of (put_get _ _ _ (by simp only [put_size]; rw [hsz]; decide))) (by simp [go_sem, Instr.loadAt, rW4_0.cell (j := 5) rfl]))) ?_
  refine ah_takeW 6 9 (.int .i64 (m.wT.size : Int)) rfl (wanted_none rfl) rfl (by kernel_rfl) (by kernel_rfl) (by kernel_rfl) (fun _ _ _ h => h) ⟨hbW4, rW4_0⟩ (fun W hW => by (try obtain ⟨hbW4, rW4_0⟩ := hW); exact (run_lenStr Tryd.underlying9 (eval_of (put_get _ _ _ (by simp only [put_size]; rw [hsz]; decide))))) ?_
  refine ah_takeW 7 10 (.int .i64 ((m.cl.size : Int) + (m.wT.size : Int))) rfl (wanted_none rfl) rfl (by kernel_rfl) (by kernel_rfl) (by kernel_rfl) (fun _ _ _ h => h) ⟨hbW4, rW4_0⟩ (fun W hW => by (try obtain ⟨hbW4, rW4_0⟩ := hW); exact (run_binOp (eval_of (pf4 (by decide) (put_get _ _ _ (by simp only [put_size]; rw [hsz]; decide)))) (eval_of (put_get _ _ _ (by simp only [put_size]; rw [hsz]; decide))) (by simp [go_sem]) (addI _ _ _ (by omega) (by omega)))) ?_
  refine ah_takeW 8 11 (.pointer (some ⟨q1, 4, none⟩)) rfl (wanted_none rfl) rfl (by kernel_rfl) (by kernel_rfl) (by kernel_rfl) (fun _ _ _ h => h) ⟨hbW4, rW4_0⟩ (fun W hW => by (try obtain ⟨hbW4, rW4_0⟩ := hW); exact (run_fieldAddr (eval_of (pf8 (by decide) s_1)) (by simp [go_sem, Instr.fieldAt]))) ?_
  refine ah_takeW 9 12 (.pointer (some ⟨q1, 6, none⟩)) rfl (wanted_none rfl) rfl (by kernel_rfl) (by kernel_rfl) (by kernel_rfl) (fun _ _ _ h => h) ⟨hbW4, rW4_0⟩ (fun W hW => by (try obtain ⟨hbW4, rW4_0⟩ := hW); exact (run_fieldAddr (eval_of (put_get _ _ _ (by simp only [put_size]; rw [hsz]; decide))) (by simp [go_sem, Instr.fieldAt]))) ?_
  refine ah_takeW 10 13 (.string m.wP) rfl (wanted_none rfl) rfl (by kernel_rfl) (by kernel_rfl) (by kernel_rfl) (fun _ _ _ h => h) ⟨hbW4, rW4_0⟩ (fun W hW => by (try obtain ⟨hbW4, rW4_0⟩ := hW); exact (run_loadOp (eval_of (put_get _ _ _ (by simp only [put_size]; rw [hsz]; decide))) (by simp [go_sem, Instr.loadAt, rW4_0.cell (j := 6) rfl]))) ?_
  refine ah_takeW 11 14 (.int .i64 (m.wP.size : Int)) rfl (wanted_none rfl) rfl (by kernel_rfl) (by kernel_rfl) (by kernel_rfl) (fun _ _ _ h => h) ⟨hbW4, rW4_0⟩ (fun W hW => by (try obtain ⟨hbW4, rW4_0⟩ := hW); exact (run_lenStr Tryd.underlying9 (eval_of (put_get _ _ _ (by simp only [put_size]; rw [hsz]; decide))))) ?_
  refine ah_takeW 12 15 (.int .i64 (((m.cl.size : Int) + (m.wT.size : Int)) + (m.wP.size : Int))) rfl (wanted_none rfl) rfl (by kernel_rfl) (by kernel_rfl) (by kernel_rfl) (fun _ _ _ h => h) ⟨hbW4, rW4_0⟩ (fun W hW => by (try obtain ⟨hbW4, rW4_0⟩ := hW); exact (run_binOp (eval_of (pf4 (by decide) (put_get _ _ _ (by simp only [put_size]; rw [hsz]; decide)))) (eval_of (put_get _ _ _ (by simp only [put_size]; rw [hsz]; decide))) (by simp [go_sem]) (addI _ _ _ (by omega) (by omega)))) ?_
  refine ah_takeW 13 16 (.pointer (some ⟨q1, 9, none⟩)) rfl (wanted_none rfl) rfl (by kernel_rfl) (by kernel_rfl) (by kernel_rfl) (fun _ _ _ h => h) ⟨hbW4, rW4_0⟩ (fun W hW => by (try obtain ⟨hbW4, rW4_0⟩ := hW); exact (run_fieldAddr (eval_of (pf1 (by decide) (pf4 (by decide) (pf8 (by decide) s_1)))) (by simp [go_sem, Instr.fieldAt]))) ?_
  refine ah_takeW 14 17 (.string m.us) rfl (wanted_none rfl) rfl (by kernel_rfl) (by kernel_rfl) (by kernel_rfl) (fun _ _ _ h => h) ⟨hbW4, rW4_0⟩ (fun W hW => by (try obtain ⟨hbW4, rW4_0⟩ := hW); exact (run_loadOp (eval_of (put_get _ _ _ (by simp only [put_size]; rw [hsz]; decide))) (by simp [go_sem, Instr.loadAt, rW4_0.cell (j := 9) rfl]))) ?_
  refine ah_takeW 15 18 (.int .i64 (m.us.size : Int)) rfl (wanted_none rfl) rfl (by kernel_rfl) (by kernel_rfl) (by kernel_rfl) (fun _ _ _ h => h) ⟨hbW4, rW4_0⟩ (fun W hW => by (try obtain ⟨hbW4, rW4_0⟩ := hW); exact (run_lenStr Tryd.underlying9 (eval_of (put_get _ _ _ (by simp only [put_size]; rw [hsz]; decide))))) ?_
  refine ah_takeW 16 19 (.int .i64 ((((m.cl.size : Int) + (m.wT.size : Int)) + (m.wP.size : Int)) + (m.us.size : Int))) rfl (wanted_none rfl) rfl (by kernel_rfl) (by kernel_rfl) (by kernel_rfl) (fun _ _ _ h => h) ⟨hbW4, rW4_0⟩ (fun W hW => by (try obtain ⟨hbW4, rW4_0⟩ := hW); exact (run_binOp (eval_of (pf1 (by decide) (pf2 (by decide) (put_get _ _ _ (by simp only [put_size]; rw [hsz]; decide))))) (eval_of (put_get _ _ _ (by simp only [put_size]; rw [hsz]; decide))) (by simp [go_sem]) (addI _ _ _ (by omega) (by omega)))) ?_
  refine ah_takeW 17 20 (.pointer (some ⟨q1, 11, none⟩)) rfl (wanted_none rfl) rfl (by kernel_rfl) (by kernel_rfl) (by kernel_rfl) (fun _ _ _ h => h) ⟨hbW4, rW4_0⟩ (fun W hW => by (try obtain ⟨hbW4, rW4_0⟩ := hW); exact (run_fieldAddr (eval_of (pf1 (by decide) (pf16 (by decide) s_1))) (by simp [go_sem, Instr.fieldAt]))) ?_
  refine ah_takeW 18 21 (.string m.pa) rfl (wanted_none rfl) rfl (by kernel_rfl) (by kernel_rfl) (by kernel_rfl) (fun _ _ _ h => h) ⟨hbW4, rW4_0⟩ (fun W hW => by (try obtain ⟨hbW4, rW4_0⟩ := hW); exact (run_loadOp (eval_of (put_get _ _ _ (by simp only [put_size]; rw [hsz]; decide))) (by simp [go_sem, Instr.loadAt, rW4_0.cell (j := 11) rfl]))) ?_
  refine ah_takeW 19 22 (.int .i64 (m.pa.size : Int)) rfl (wanted_none rfl) rfl (by kernel_rfl) (by kernel_rfl) (by kernel_rfl) (fun _ _ _ h => h) ⟨hbW4, rW4_0⟩ (fun W hW => by (try obtain ⟨hbW4, rW4_0⟩ := hW); exact (run_lenStr Tryd.underlying9 (eval_of (put_get _ _ _ (by simp only [put_size]; rw [hsz]; decide))))) ?_
  refine ah_takeW 20 23 (.int .i64 (((((m.cl.size : Int) + (m.wT.size : Int)) + (m.wP.size : Int)) + (m.us.size : Int)) + (m.pa.size : Int))) rfl (wanted_none rfl) rfl (by kernel_rfl) (by kernel_rfl) (by kernel_rfl) (fun _ _ _ h => h) ⟨hbW4, rW4_0⟩ (fun W hW => by (try obtain ⟨hbW4, rW4_0⟩ := hW); exact (run_binOp (eval_of (pf1 (by decide) (pf2 (by decide) (put_get _ _ _ (by simp only [put_size]; rw [hsz]; decide))))) (eval_of (put_get _ _ _ (by simp only [put_size]; rw [hsz]; decide))) (by simp [go_sem]) (addI _ _ _ (by omega) (by omega)))) ?_
  refine ah_takeW 21 24 (.pointer (some ⟨q1, 15, none⟩)) rfl (wanted_none rfl) rfl (by kernel_rfl) (by kernel_rfl) (by kernel_rfl) (fun _ _ _ h => h) ⟨hbW4, rW4_0⟩ (fun W hW => by (try obtain ⟨hbW4, rW4_0⟩ := hW); exact (run_fieldAddr (eval_of (pf1 (by decide) (pf4 (by decide) (pf16 (by decide) s_1)))) (by simp [go_sem, Instr.fieldAt]))) ?_
  refine ah_takeW 22 25 (.slice ac nc cc) rfl (wanted_none rfl) rfl (by kernel_rfl) (by kernel_rfl) (by kernel_rfl) (fun _ _ _ h => h) ⟨hbW4, rW4_0⟩ (fun W hW => by (try obtain ⟨hbW4, rW4_0⟩ := hW); exact (run_loadOp (eval_of (put_get _ _ _ (by simp only [put_size]; rw [hsz]; decide))) (by simp [go_sem, Instr.loadAt, rW4_0.cell (j := 15) rfl]))) ?_
  refine ah_takeW 23 26 (.int .i64 ((nc : Nat) : Int)) rfl (wanted_none rfl) rfl (by kernel_rfl) (by kernel_rfl) (by kernel_rfl) (fun _ _ _ h => h) ⟨hbW4, rW4_0⟩ (fun W hW => by (try obtain ⟨hbW4, rW4_0⟩ := hW); exact (run_lenOp Tryd.underlying26 (eval_of (put_get _ _ _ (by simp only [put_size]; rw [hsz]; decide))))) ?_
  refine ah_takeW 24 27 (.int .i64 ((((((m.cl.size : Int) + (m.wT.size : Int)) + (m.wP.size : Int)) + (m.us.size : Int)) + (m.pa.size : Int)) + ((nc : Nat) : Int))) rfl (wanted_none rfl) rfl (by kernel_rfl) (by kernel_rfl) (by kernel_rfl) (fun _ _ _ h => h) ⟨hbW4, rW4_0⟩ (fun W hW => by (try obtain ⟨hbW4, rW4_0⟩ := hW); exact (run_binOp (eval_of (pf1 (by decide) (pf2 (by decide) (put_get _ _ _ (by simp only [put_size]; rw [hsz]; decide))))) (eval_of (put_get _ _ _ (by simp only [put_size]; rw [hsz]; decide))) (by simp [go_sem]) (addI _ _ _ (by omega) (by omega)))) ?_
  refine ah_takeW 25 28 (.pointer (some ⟨q1, 19, none⟩)) rfl (wanted_none rfl) rfl (by kernel_rfl) (by kernel_rfl) (by kernel_rfl) (fun _ _ _ h => h) ⟨hbW4, rW4_0⟩ (fun W hW => by (try obtain ⟨hbW4, rW4_0⟩ := hW); exact (run_fieldAddr (eval_of (pf1 (by decide) (pf8 (by decide) (pf16 (by decide) s_1)))) (by simp [go_sem, Instr.fieldAt]))) ?_
  refine ah_takeW 26 29 (.string m.top) rfl (wanted_none rfl) rfl (by kernel_rfl) (by kernel_rfl) (by kernel_rfl) (fun _ _ _ h => h) ⟨hbW4, rW4_0⟩ (fun W hW => by (try obtain ⟨hbW4, rW4_0⟩ := hW); exact (run_loadOp (eval_of (put_get _ _ _ (by simp only [put_size]; rw [hsz]; decide))) (by simp [go_sem, Instr.loadAt, rW4_0.cell (j := 19) rfl]))) ?_
  refine ah_takeW 27 30 (.int .i64 (m.top.size : Int)) rfl (wanted_none rfl) rfl (by kernel_rfl) (by kernel_rfl) (by kernel_rfl) (fun _ _ _ h => h) ⟨hbW4, rW4_0⟩ (fun W hW => by (try obtain ⟨hbW4, rW4_0⟩ := hW); exact (run_lenStr Tryd.underlying9 (eval_of (put_get _ _ _ (by simp only [put_size]; rw [hsz]; decide))))) ?_
  refine ah_takeW 28 31 (.int .i64 (((((((m.cl.size : Int) + (m.wT.size : Int)) + (m.wP.size : Int)) + (m.us.size : Int)) + (m.pa.size : Int)) + ((nc : Nat) : Int)) + (m.top.size : Int))) rfl (wanted_none rfl) rfl (by kernel_rfl) (by kernel_rfl) (by kernel_rfl) (fun _ _ _ h => h) ⟨hbW4, rW4_0⟩ (fun W hW => by (try obtain ⟨hbW4, rW4_0⟩ := hW); exact (run_binOp (eval_of (pf1 (by decide) (pf2 (by decide) (put_get _ _ _ (by simp only [put_size]; rw [hsz]; decide))))) (eval_of (put_get _ _ _ (by simp only [put_size]; rw [hsz]; decide))) (by simp [go_sem]) (addI _ _ _ (by omega) (by omega)))) ?_
  refine ah_takeW 29 32 (.pointer (some ⟨q1, 21, none⟩)) rfl (wanted_none rfl) rfl (by kernel_rfl) (by kernel_rfl) (by kernel_rfl) (fun _ _ _ h => h) ⟨hbW4, rW4_0⟩ (fun W hW => by (try obtain ⟨hbW4, rW4_0⟩ := hW); exact (run_fieldAddr (eval_of (pf1 (by decide) (pf4 (by decide) (pf8 (by decide) (pf16 (by decide) s_1))))) (by simp [go_sem, Instr.fieldAt]))) ?_
  refine ah_takeW 30 33 (.string m.pay) rfl (wanted_none rfl) rfl (by kernel_rfl) (by kernel_rfl) (by kernel_rfl) (fun _ _ _ h => h) ⟨hbW4, rW4_0⟩ (fun W hW => by (try obtain ⟨hbW4, rW4_0⟩ := hW); exact (run_loadOp (eval_of (put_get _ _ _ (by simp only [put_size]; rw [hsz]; decide))) (by simp [go_sem, Instr.loadAt, rW4_0.cell (j := 21) rfl]))) ?_
  refine ah_takeW 31 34 (.int .i64 (m.pay.size : Int)) rfl (wanted_none rfl) rfl (by kernel_rfl) (by kernel_rfl) (by kernel_rfl) (fun _ _ _ h => h) ⟨hbW4, rW4_0⟩ (fun W hW => by (try obtain ⟨hbW4, rW4_0⟩ := hW); exact (run_lenStr Tryd.underlying9 (eval_of (put_get _ _ _ (by simp only [put_size]; rw [hsz]; decide))))) ?_
  refine ah_takeW 32 35 (.int .i64 ((((((((m.cl.size : Int) + (m.wT.size : Int)) + (m.wP.size : Int)) + (m.us.size : Int)) + (m.pa.size : Int)) + ((nc : Nat) : Int)) + (m.top.size : Int)) + (m.pay.size : Int))) rfl (wanted_none rfl) rfl (by kernel_rfl) (by kernel_rfl) (by kernel_rfl) (fun _ _ _ h => h) ⟨hbW4, rW4_0⟩ (fun W hW => by (try obtain ⟨hbW4, rW4_0⟩ := hW); exact (run_binOp (eval_of (pf1 (by decide) (pf2 (by decide) (put_get _ _ _ (by simp only [put_size]; rw [hsz]; decide))))) (eval_of (put_get _ _ _ (by simp only [put_size]; rw [hsz]; decide))) (by simp [go_sem]) (addI _ _ _ (by omega) (by omega)))) ?_
  refine ah_takeW 33 36 (.pointer (some ⟨q1, 22, none⟩)) rfl (wanted_none rfl) rfl (by kernel_rfl) (by kernel_rfl) (by kernel_rfl) (fun _ _ _ h => h) ⟨hbW4, rW4_0⟩ (fun W hW => by (try obtain ⟨hbW4, rW4_0⟩ := hW); exact (run_fieldAddr (eval_of (pf1 (by decide) (pf16 (by decide) (pf16 (by decide) s_1)))) (by simp [go_sem, Instr.fieldAt]))) ?_
  refine ah_takeW 34 37 (.slice aw nw cw) rfl (wanted_none rfl) rfl (by kernel_rfl) (by kernel_rfl) (by kernel_rfl) (fun _ _ _ h => h) ⟨hbW4, rW4_0⟩ (fun W hW => by (try obtain ⟨hbW4, rW4_0⟩ := hW); exact (run_loadOp (eval_of (put_get _ _ _ (by simp only [put_size]; rw [hsz]; decide))) (by simp [go_sem, Instr.loadAt, rW4_0.cell (j := 22) rfl]))) ?_
  refine ah_takeW 37 40 (.pointer (some ⟨q1, 23, none⟩)) rfl (wanted_none rfl) rfl (by kernel_rfl) (by kernel_rfl) (by kernel_rfl) (fun _ _ _ h => h) ⟨hbW4, rW4_0⟩ (fun W hW => by (try obtain ⟨hbW4, rW4_0⟩ := hW); exact (run_fieldAddr (eval_of (pf1 (by decide) (pf2 (by decide) (pf16 (by decide) (pf16 (by decide) s_1))))) (by simp [go_sem, Instr.fieldAt]))) ?_
  refine ah_takeW 38 41 (.slice af nf cf) rfl (wanted_none rfl) rfl (by kernel_rfl) (by kernel_rfl) (by kernel_rfl) (fun _ _ _ h => h) ⟨hbW4, rW4_0⟩ (fun W hW => by (try obtain ⟨hbW4, rW4_0⟩ := hW); exact (run_loadOp (eval_of (put_get _ _ _ (by simp only [put_size]; rw [hsz]; decide))) (by simp [go_sem, Instr.loadAt, rW4_0.cell (j := 23) rfl]))) ?_
  refine ah_one 35 (by kernel_rfl) ?_
  refine ao_call rfl (wanted_none rfl) 38 (fun v X => ∃ n : Nat, v = .int .i64 (n : Int) ∧ m.ws.length ≤ n ∧ n ≤ 281474976710656 ∧ (n ≤ 3000 → ∀ s ∈ m.ws, s.f.size ≤ n) ∧ W4 = X) rfl _ _ (run_callOp Tryd.func65 rfl rfl (arr1 (eval_of (pf2 (by decide) (put_get _ _ _ (by simp only [put_size]; rw [hsz]; decide)))))) ((Cw _ hbW4)) ?_
  rintro _ _ ⟨zw, rfl, hzw0, hzw1, hzw2, rfl⟩
  refine ⟨⟨hbW4, rW4_0⟩, ?_⟩
  refine ah_takeW 36 39 (.int .i64 (((((((((m.cl.size : Int) + (m.wT.size : Int)) + (m.wP.size : Int)) + (m.us.size : Int)) + (m.pa.size : Int)) + ((nc : Nat) : Int)) + (m.top.size : Int)) + (m.pay.size : Int)) + (zw : Int))) rfl (wanted_none rfl) rfl (by kernel_rfl) (by kernel_rfl) (by kernel_rfl) (fun _ _ _ h => h) ⟨hbW4, rW4_0⟩ (fun W hW => by (try obtain ⟨hbW4, rW4_0⟩ := hW); exact (run_binOp (eval_of (pf1 (by decide) (pf4 (by decide) (put_get _ _ _ (by simp only [put_size]; rw [hsz]; decide))))) (eval_of (put_get _ _ _ (by simp only [put_size]; rw [hsz]; decide))) (by simp [go_sem]) (addI _ _ _ (by omega) (by omega)))) ?_
  refine ah_one 39 (by kernel_rfl) ?_
  refine ao_call rfl (wanted_none rfl) 42 (fun v X => ∃ n : Nat, v = .int .i64 (n : Int) ∧ m.fs.length ≤ n ∧ n ≤ 281474976710656 ∧ (n ≤ 3000 → ∀ s ∈ m.fs, s.size ≤ n) ∧ W4 = X) rfl _ _ (run_callOp Tryd.func66 rfl rfl (arr1 (eval_of (pf2 (by decide) (put_get _ _ _ (by simp only [put_size]; rw [hsz]; decide)))))) ((Cf _ hbW4)) ?_
  rintro _ _ ⟨zf, rfl, hzf0, hzf1, hzf2, rfl⟩
  refine ⟨⟨hbW4, rW4_0⟩, ?_⟩
  refine ah_takeW 40 43 (.int .i64 ((((((((((m.cl.size : Int) + (m.wT.size : Int)) + (m.wP.size : Int)) + (m.us.size : Int)) + (m.pa.size : Int)) + ((nc : Nat) : Int)) + (m.top.size : Int)) + (m.pay.size : Int)) + (zw : Int)) + (zf : Int))) rfl (wanted_none rfl) rfl (by kernel_rfl) (by kernel_rfl) (by kernel_rfl) (fun _ _ _ h => h) ⟨hbW4, rW4_0⟩ (fun W hW => by (try obtain ⟨hbW4, rW4_0⟩ := hW); exact (run_binOp (eval_of (pf1 (by decide) (put_get _ _ _ (by simp only [put_size]; rw [hsz]; decide)))) (eval_of (put_get _ _ _ (by simp only [put_size]; rw [hsz]; decide))) (by simp [go_sem]) (addI _ _ _ (by omega) (by omega)))) ?_
  refine ah_takeW 41 2 (.int .i64 ((((((((((m.cl.size : Int) + (m.wT.size : Int)) + (m.wP.size : Int)) + (m.us.size : Int)) + (m.pa.size : Int)) + ((nc : Nat) : Int)) + (m.top.size : Int)) + (m.pay.size : Int)) + (zw : Int)) + (zf : Int))) rfl (wanted_none rfl) rfl (by kernel_rfl) (by kernel_rfl) (by kernel_rfl) (fun _ _ _ h => h) ⟨hbW4, rW4_0⟩ (fun W hW => by (try obtain ⟨hbW4, rW4_0⟩ := hW); exact (run_assignOp (eval_of (put_get _ _ _ (by simp only [put_size]; rw [hsz]; decide))))) ?_
  refine fresh (C := fun x W => AH _ _ _ _ _ _ x W) (fun x X => _ = X ∧ x.tmps.size = 44 ∧ x.defers = [] ∧ x.tmps[2]? = some (.int .i64 ((((((((((m.cl.size : Int) + (m.wT.size : Int)) + (m.wP.size : Int)) + (m.us.size : Int)) + (m.pa.size : Int)) + ((nc : Nat) : Int)) + (m.top.size : Int)) + (m.pay.size : Int)) + (zw : Int)) + (zf : Int)))) ⟨rfl, (by simp only [put_size]; exact hsz), (by simp only [put_defers]; exact hdf), (put_get _ _ _ (by simp only [put_size]; rw [hsz]; decide))⟩ ?_
  clear hsz hdf s_1
  rintro a _ ⟨rfl, hsz, hdf, s_2⟩
  refine ah_done (by kernel_rfl) ?_
  refine ow_then ?_
  refine wp_ret ?_
  refine ow_ret1 rfl hdf s_2 ⟨_, rfl, hbW4, ?_, ?_⟩
  · omega
  · intro h3
    exact HF.out zw zf hzw0 hzf0 hzw2 hzf2 h3
set_option maxRecDepth 100000 in
set_option maxHeartbeats 4000000 in
theorem heavy_any (m : Mq) (ac aw af ax : Option Addr) (nc nw nf nx cc cw cf cx : Nat) (w : World) (hF : m.Far) (hL : m.Lists w (.slice ac nc cc) (.slice aw nw cw) (.slice af nf cf)) :
    Calls Tryd.prog 14 #[(.agg (Mq.row m (.slice ac nc cc) (.slice aw nw cw) (.slice af nf cf) ++ [(.slice ax nx cx : Value)]).toArray)] w fun e w' => ∃ b, e = .returned (.bool b) ∧ Below w.heap.size w w' ∧ (b = false → m.Near 3000 ∧ nx ≤ 3000) := by
  have hb0 := Below.refl w.heap.size w
  refine ow_enter 13 Tryd.func14 rfl Tryd.ntmps14 (by simp) ?_
  rintro a hsz hdf hargs
  have s_0 : a.tmps[0]? = some (.agg (Mq.row m (.slice ac nc cc) (.slice aw nw cw) (.slice af nf cf) ++ [(.slice ax nx cx : Value)]).toArray) := hargs 0 _ rfl
  clear hargs
  refine wp_seq ?_
  refine ow_region [_, _] rfl (by intro o ho; simp only [List.mem_cons, List.not_mem_nil, or_false] at ho; rcases ho with rfl | rfl <;> rfl) ?_
  obtain ⟨q1, hq1⟩ : ∃ x, x = w.heap.size := ⟨_, rfl⟩
  refine ow_run 1 (.pointer (some ⟨q1, 0, none⟩)) (w.alloc (.cells #[.int .i64 m.k, .string m.cl, .bool m.clean, .int .i64 m.keep, .bool m.wI, .string m.wT, .string m.wP, .int .i64 m.wQ, .bool m.wR, .string m.us, .bool m.hu, .string m.pa, .bool m.hp, .bool m.pres, .int .i64 m.code, .slice ac nc cc, .bool m.dup, .int .i64 m.q, .bool m.re, .string m.top, .int .i64 m.id, .string m.pay, .slice aw nw cw, .slice af nf cf, .slice ax nx cx] 33)) rfl (by rw [hq1]; exact (run_boxOp (eval_of s_0) (by simp [go_sem, Instr.box]))) ?_
  have hqq1 : w.heap.size ≤ q1 := by rw [hq1]; exact hb0.size
  refine fresh (C := fun x W => wpRun _ _ x W _) (fun x X => _ = x ∧ Below w.heap.size w X ∧ RowAt X q1 (Mq.row m (.slice ac nc cc) (.slice aw nw cw) (.slice af nf cf) ++ [(.slice ax nx cx : Value)])) ⟨rfl, (hb0.alloc hb0.size _), (by rw [hq1]; exact rowAt_alloc _ [.int .i64 m.k, .string m.cl, .bool m.clean, .int .i64 m.keep, .bool m.wI, .string m.wT, .string m.wP, .int .i64 m.wQ, .bool m.wR, .string m.us, .bool m.hu, .string m.pa, .bool m.hp, .bool m.pres, .int .i64 m.code, .slice ac nc cc, .bool m.dup, .int .i64 m.q, .bool m.re, .string m.top, .int .i64 m.id, .string m.pay, .slice aw nw cw, .slice af nf cf, .slice ax nx cx] _)⟩ ?_
  rintro _ W2 ⟨rfl, hbW2, rW2_0⟩
  clear hq1
  refine ow_run 2 (.bool false) _ rfl (run_assignOp (eval_cst _ _)) ?_
  refine fresh (C := fun x W => wpRun _ [] x W _) (fun x X => _ = X ∧ x.tmps.size = 13 ∧ x.defers = [] ∧ x.tmps[1]? = some (.pointer (some ⟨q1, 0, none⟩))) ⟨rfl, (by simp only [put_size]; exact hsz), (by simp only [put_defers]; exact hdf), (pf1 (by decide) (put_get _ _ _ (by rw [hsz]; decide)))⟩ ?_
  clear hsz hdf s_0
  rintro a _ ⟨rfl, hsz, hdf, s_1⟩
  refine ow_then ?_
  refine wp_seq ?_
  refine owl_region [_, _, _, _, _, _, _, _, _, _, _] rfl ?_
  refine owl_run (wanted_none rfl) 3 (.pointer (some ⟨q1, 0, none⟩)) _ rfl (run_fieldAddr (eval_of s_1) (by simp [go_sem, Instr.fieldAt])) ?_
  refine owl_run (wanted_none rfl) 4 (.agg (Mq.row m (.slice ac nc cc) (.slice aw nw cw) (.slice af nf cf)).toArray) _ rfl (run_loadOp (eval_of (put_get _ _ _ (by rw [hsz]; decide))) (run_loadN [.int .i64 m.k, .string m.cl, .bool m.clean, .int .i64 m.keep, .bool m.wI, .string m.wT, .string m.wP, .int .i64 m.wQ, .bool m.wR, .string m.us, .bool m.hu, .string m.pa, .bool m.hp, .bool m.pres, .int .i64 m.code, .slice ac nc cc, .bool m.dup, .int .i64 m.q, .bool m.re, .string m.top, .int .i64 m.id, .string m.pay, .slice aw nw cw, .slice af nf cf] rW2_0 (fun j v hj => mid_row 0 24 _ _ rfl j v hj) Tryd.underlying30 rfl (by kernel_rfl))) ?_
  refine owl_call (wanted_none rfl) 5 (fun v X => ∃ n : Int, v = .int .i64 n ∧ Below W2.heap.size W2 X ∧ 0 ≤ n ∧ (n ≤ 3000 → m.Near 3000)) rfl _ _ (run_callOp Tryd.func35 rfl rfl (arr1 (eval_of (put_get _ _ _ (by simp only [put_size]; rw [hsz]; decide))))) ((mqWeight_any m _ _ _ W2 hF (hL.below hbW2)).mono fun e X ⟨n, he, hr⟩ => ⟨_, he, n, rfl, hr⟩) ?_
  rintro _ V5 ⟨nz, rfl, hb4, hz0, hz3⟩
  refine fresh (C := fun x W => WL _ _ _ _ x W) (fun x X => _ = x ∧ Below w.heap.size w X ∧ RowAt X q1 (Mq.row m (.slice ac nc cc) (.slice aw nw cw) (.slice af nf cf) ++ [(.slice ax nx cx : Value)])) ⟨rfl, (hbW2.trans (hb4.mono hbW2.size)), (rW2_0.below hb4)⟩ ?_
  rintro _ W6 ⟨rfl, hbW6, rW6_0⟩
  refine owl_run (wanted_none rfl) 6 (.bool (decide (3000 < nz))) _ rfl (run_binOp (eval_of (put_get _ _ _ (by simp only [put_size]; rw [hsz]; decide))) (eval_cst _ _) (by simp [go_sem]) (by simp [go_sem])) ?_
  refine owl_run (wanted_none rfl) 7 (.bool (decide (3000 < nz))) _ rfl (run_moveOp (eval_of (put_get _ _ _ (by simp only [put_size]; rw [hsz]; decide)))) ?_
  rcases Bool.eq_false_or_eq_true ((decide (3000 < nz))) with hb_7 | hb_7
  · skip
    refine owg_no 4 7 false true rfl (by kernel_rfl) (flag_of (put_get _ _ _ (by simp only [put_size]; rw [hsz]; decide)) hb_7) (by decide) 8 rfl ?_
    refine owg_no 4 7 false true rfl (by kernel_rfl) (flag_of (pf1 (by decide) (put_get _ _ _ (by simp only [put_size]; rw [hsz]; decide))) hb_7) (by decide) 9 rfl ?_
    refine owg_no 4 7 false true rfl (by kernel_rfl) (flag_of (pf2 (by decide) (put_get _ _ _ (by simp only [put_size]; rw [hsz]; decide))) hb_7) (by decide) 10 rfl ?_
    refine owg_no 4 7 false true rfl (by kernel_rfl) (flag_of (pf1 (by decide) (pf2 (by decide) (put_get _ _ _ (by simp only [put_size]; rw [hsz]; decide)))) hb_7) (by decide) 11 rfl ?_
    refine owl_run (wanted_none rfl) 12 (.bool true) _ rfl (run_pickT (eval_cast (eval_of (pf4 (by decide) (put_get _ _ _ (by simp only [put_size]; rw [hsz]; decide)))) hb_7) (eval_cst _ _)) ?_
    refine owl_run (wanted_none rfl) 2 (.bool true) _ rfl (run_assignOp (eval_of (put_get _ _ _ (by simp only [put_size]; rw [hsz]; decide)))) ?_
    refine fresh (C := fun x W => WL _ _ _ [] x W) (fun x X => _ = X ∧ x.tmps.size = 13 ∧ x.defers = [] ∧ x.tmps[2]? = some (.bool true)) ⟨rfl, (by simp only [put_size]; exact hsz), (by simp only [put_defers]; exact hdf), (put_get _ _ _ (by simp only [put_size]; rw [hsz]; decide))⟩ ?_
    clear hsz hdf s_1
    rintro a _ ⟨rfl, hsz, hdf, s_2⟩
    refine wl_done ?_
    refine ow_then ?_
    refine wp_ret ?_
    refine ow_ret1 rfl hdf s_2 ⟨_, rfl, hbW6, ?_⟩
    intro h; cases h
  · skip
    refine owg_run 4 7 false rfl (by kernel_rfl) (flag_of (put_get _ _ _ (by simp only [put_size]; rw [hsz]; decide)) hb_7) 8 (.pointer (some ⟨q1, 24, none⟩)) _ rfl (run_fieldAddr (eval_of (pf1 (by decide) (pf4 (by decide) s_1))) (by simp [go_sem, Instr.fieldAt])) ?_
    refine owg_run 4 7 false rfl (by kernel_rfl) (flag_of (pf1 (by decide) (put_get _ _ _ (by simp only [put_size]; rw [hsz]; decide))) hb_7) 9 (.slice ax nx cx) _ rfl (run_loadOp (eval_of (put_get _ _ _ (by simp only [put_size]; rw [hsz]; decide))) (by simp [go_sem, Instr.loadAt, rW6_0.cell (j := 24) rfl])) ?_
    refine owg_run 4 7 false rfl (by kernel_rfl) (flag_of (pf2 (by decide) (put_get _ _ _ (by simp only [put_size]; rw [hsz]; decide))) hb_7) 10 (.int .i64 ((nx : Nat) : Int)) _ rfl (run_lenOp Tryd.underlying31 (eval_of (put_get _ _ _ (by simp only [put_size]; rw [hsz]; decide)))) ?_
    refine owg_run 4 7 false rfl (by kernel_rfl) (flag_of (pf1 (by decide) (pf2 (by decide) (put_get _ _ _ (by simp only [put_size]; rw [hsz]; decide)))) hb_7) 11 (.bool (decide (3000 < ((nx : Nat) : Int)))) _ rfl (run_binOp (eval_of (put_get _ _ _ (by simp only [put_size]; rw [hsz]; decide))) (eval_cst _ _) (by simp [go_sem]) (by simp [go_sem])) ?_
    refine owl_run (wanted_none rfl) 12 (.bool (decide (3000 < ((nx : Nat) : Int)))) _ rfl (run_pickF (eval_cast (eval_of (pf4 (by decide) (put_get _ _ _ (by simp only [put_size]; rw [hsz]; decide)))) hb_7) (eval_of (put_get _ _ _ (by simp only [put_size]; rw [hsz]; decide)))) ?_
    refine owl_run (wanted_none rfl) 2 (.bool (decide (3000 < ((nx : Nat) : Int)))) _ rfl (run_assignOp (eval_of (put_get _ _ _ (by simp only [put_size]; rw [hsz]; decide)))) ?_
    refine fresh (C := fun x W => WL _ _ _ [] x W) (fun x X => _ = X ∧ x.tmps.size = 13 ∧ x.defers = [] ∧ x.tmps[2]? = some (.bool (decide (3000 < ((nx : Nat) : Int))))) ⟨rfl, (by simp only [put_size]; exact hsz), (by simp only [put_defers]; exact hdf), (put_get _ _ _ (by simp only [put_size]; rw [hsz]; decide))⟩ ?_
    clear hsz hdf s_1
    rintro a _ ⟨rfl, hsz, hdf, s_2⟩
    refine wl_done ?_
    refine ow_then ?_
    refine wp_ret ?_
    refine ow_ret1 rfl hdf s_2 ⟨_, rfl, hbW6, ?_⟩
    intro h; exact ⟨hz3 (by have := hb_7; simp at this; omega), by simp at h; omega⟩
end Go.Proofs.YtpgnlhfokffioaaDoor
