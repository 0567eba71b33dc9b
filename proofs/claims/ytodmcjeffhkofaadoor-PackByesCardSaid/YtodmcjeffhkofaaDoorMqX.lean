/-
  Packets: a copy of a packet in new memory; its lists made longer.
-/
import Derived.Test.YtodmcjeffhkofaaDoorMqW
import Derived.Test.YtodmcjeffhkofaaDoorOw2
namespace Go.Proofs.YtodmcjeffhkofaaDoor
open Go.RowKit
theorem own_lt {w : World} {base e size n k : Nat} {v : Value} {xs : List Value} (h : w.ownsRow base e size v n xs) (hk : v.ownBlock = some k) : base ≤ k ∧ k < w.heap.size := by
  rcases h.2 with ⟨rfl, -⟩ | ⟨g, cap, cur, rfl, hb, hh, -⟩
  · simp [Value.ownBlock] at hk
  · simp [Value.ownBlock] at hk; subst hk
    refine ⟨hb, ?_⟩
    rcases Nat.lt_or_ge g w.heap.size with h | h
    · exact h
    · rw [Array.getElem?_eq_none h] at hh; simp at hh
/-- A row of our own that nobody wrote. -/
theorem own_keep {w w' : World} {base e size n : Nat} {v : Value} {xs : List Value} {r : Option Nat} (h : w.ownsRow base e size v n xs) (hg : w.grownBy w' r) (hn : ∀ k, v.ownBlock = some k → some k ≠ r) : w'.ownsRow base e size v n xs := by
  refine ⟨h.1, ?_⟩
  rcases h.2 with h1 | ⟨g, cap, cur, rfl, hb, hh, h2⟩
  · exact .inl h1
  · have hlt : g < w.heap.size := by
      rcases Nat.lt_or_ge g w.heap.size with h | h
      · exact h
      · rw [Array.getElem?_eq_none h] at hh; simp at hh
    exact .inr ⟨g, cap, cur, rfl, hb, by rw [hg.block g hlt (hn g rfl)]; exact hh, h2⟩
theorem rowAt_keep {w w' : World} {q : Nat} {vs : List Value} {r : Option Nat} (h : RowAt w q vs) (hg : w.grownBy w' r) (hn : some q ≠ r) : RowAt w' q vs := by
  have hb := hg.block q h.2.2 hn
  exact ⟨fun j v hj => (World.cell?_of_block (w := w) (w' := w') (a := ⟨q, j, none⟩) hb).trans (h.1 j v hj), fun j => (World.frozen?_of_block (w := w) (w' := w') (a := ⟨q, j, none⟩) hb).trans (h.2.1 j), Nat.lt_of_lt_of_le h.2.2 hg.size⟩
theorem opTo_appendOwn {P : Program} {o : Oper} {a : Act} {w : World} (s x : Operand) (t : TypeId) (ho : o.op = .call { callee := .builtin .append, args := #[s, x], argTypes := #[t, t] })
    (base : Nat) (e : TypeId) (i : TypeInfo) (z : Value) (size bytes : Nat) (ht : P.underlying t = some (.slice e)) (hi : P.info? e = some i) (hz : i.zero = some z)
    (hsize : i.size = size) (hby : i.bytes = bytes) (hzs : z.cells.size = size) (hsz : 0 < size)
    (v : Value) (n : Nat) (xs : List Value) (hs : a.eval s = v) (hown : w.ownsRow base e size v n xs)
    (ad : Addr) (m c : Nat) (news : List Value) (hx : a.eval x = .slice (some ad) m c) (hl : news.length = m * size) (hnews : ∀ j u, news[j]? = some u → w.cell? (ad.add j) = some u) (h1 : ∀ u ∈ news, u.oneCell' = true)
    (h63 : n + m ≤ maxLen) (hbytes : (n + m) * bytes ≤ 140737488355328) (hbase : base ≤ w.heap.size) : opTo P o a w fun v' w' => w'.ownsRow base e size v' (n + m) (xs ++ news) ∧ Grew w w' v v' := by
  obtain ⟨v', w', hr, h2', h3', h4'⟩ := run_append_at (P := P) w base t o.type e i z size bytes ht hi hz hsize hby hzs hsz v n xs hown ad m c news hl hnews h1 h63 hbytes hbase
  refine .inl ⟨v', w', ?_, h2', (Grew.refl w v).app0 h3' h4'⟩
  unfold execOp
  simp only [ho, resolve, invoke, builtin, Sem.run_bind, Sem.run_pure, Result.andThen_ok, List.map_toArray, List.map_cons, List.map_nil, hs, hx, hr]
/-- A packet whose lists are rows of our own, in blocks of their own. -/
structure MqOwn (W : World) (B : Nat) (m : Mq) (vc vw vf : Value) : Prop where
  c : W.ownsRow B 3 1 vc m.cs.length (m.cs.map (fun x => (.int .i64 x : Value)))
  w : W.ownsRow B 93 2 vw m.ws.length (m.ws.map rowWish).flatten
  f : W.ownsRow B 9 1 vf m.fs.length (m.fs.map (fun x => (.string x : Value)))
  cw : ∀ k, vc.ownBlock = some k → vw.ownBlock ≠ some k
  cf : ∀ k, vc.ownBlock = some k → vf.ownBlock ≠ some k
  wf : ∀ k, vw.ownBlock = some k → vf.ownBlock ≠ some k
theorem MqOwn.below {W W' : World} {B : Nat} {m : Mq} {vc vw vf : Value} (h : MqOwn W B m vc vw vf) (hb : Below W.heap.size W W') : MqOwn W' B m vc vw vf := ⟨below_own h.c hb, below_own h.w hb, below_own h.f hb, h.cw, h.cf, h.wf⟩
theorem MqOwn.lists {W : World} {B : Nat} {m : Mq} {vc vw vf : Value} (h : MqOwn W B m vc vw vf) : m.Lists W vc vw vf := by
  refine ⟨?_, ?_, ?_⟩
  · exact (SlR.of_own (by decide) (by intro q hq; obtain ⟨x, -, rfl⟩ := List.mem_map.1 hq; rfl) (by rw [flatNumbers]; exact h.c)).1
  · exact (SlR.of_own (by decide) (by intro q hq; obtain ⟨x, -, rfl⟩ := List.mem_map.1 hq; rfl) h.w).1
  · exact (SlR.of_own (by decide) (by intro q hq; obtain ⟨x, -, rfl⟩ := List.mem_map.1 hq; rfl) (by rw [flatStrings]; exact h.f)).1
theorem MqOwn.slices {W : World} {B : Nat} {m : Mq} {vc vw vf : Value} (h : MqOwn W B m vc vw vf) : ∃ ac cc aw cw af cf, vc = .slice ac m.cs.length cc ∧ vw = .slice aw m.ws.length cw ∧ vf = .slice af m.fs.length cf := by
  obtain ⟨ac, cc, h1⟩ := own_slice h.c
  obtain ⟨aw, cw, h2⟩ := own_slice h.w
  obtain ⟨af, cf, h3⟩ := own_slice h.f
  exact ⟨ac, cc, aw, cw, af, cf, h1, h2, h3⟩
theorem ne_of_grew {w w' : World} {v v' v2 : Value} {base e size n : Nat} {xs : List Value} (hg : Grew w w' v v') (h2 : w.ownsRow base e size v2 n xs) (hn : ∀ k, v.ownBlock = some k → v2.ownBlock ≠ some k) : ∀ k, v'.ownBlock = some k → v2.ownBlock ≠ some k := by
  intro k hk h
  rcases hg.2 with h1 | ⟨k', h1, hle⟩
  · exact hn k (h1.symm.trans hk) h
  · have := own_lt h2 h
    rw [hk] at h1; injection h1 with h1; omega
theorem some_ne {v v2 : Value} (h : ∀ k, v.ownBlock = some k → v2.ownBlock ≠ some k) : ∀ k, v2.ownBlock = some k → some k ≠ v.ownBlock := fun k h1 h2 => h k h2.symm h1
theorem MqOwn.addC {W W' : World} {B : Nat} {m : Mq} {vc vw vf v' : Value} {x : Int} (h : MqOwn W B m vc vw vf) (ho : W'.ownsRow B 3 1 v' (m.cs.length + 1) (m.cs.map (fun x => (.int .i64 x : Value)) ++ [.int .i64 x])) (hg : Grew W W' vc v') : MqOwn W' B { m with cs := m.cs ++ [x] } v' vw vf :=
  ⟨by simpa using ho, own_keep h.w hg.1 (some_ne h.cw), own_keep h.f hg.1 (some_ne h.cf), ne_of_grew hg h.w h.cw, ne_of_grew hg h.f h.cf, h.wf⟩
theorem flip_ne {v v2 : Value} (h : ∀ k, v.ownBlock = some k → v2.ownBlock ≠ some k) : ∀ k, v2.ownBlock = some k → v.ownBlock ≠ some k := fun k h1 h2 => h k h2 h1
theorem MqOwn.addW {W W' : World} {B : Nat} {m : Mq} {vc vw vf v' : Value} {x : EWish} (h : MqOwn W B m vc vw vf) (ho : W'.ownsRow B 93 2 v' (m.ws.length + 1) ((m.ws.map rowWish).flatten ++ rowWish x)) (hg : Grew W W' vw v') : MqOwn W' B { m with ws := m.ws ++ [x] } vc v' vf :=
  ⟨own_keep h.c hg.1 (some_ne (flip_ne h.cw)), by simpa using ho, own_keep h.f hg.1 (some_ne h.wf), flip_ne (ne_of_grew hg h.c (flip_ne h.cw)), h.cf, ne_of_grew hg h.f h.wf⟩
theorem MqOwn.addF {W W' : World} {B : Nat} {m : Mq} {vc vw vf v' : Value} {x : ByteArray} (h : MqOwn W B m vc vw vf) (ho : W'.ownsRow B 9 1 v' (m.fs.length + 1) (m.fs.map (fun x => (.string x : Value)) ++ [.string x])) (hg : Grew W W' vf v') : MqOwn W' B { m with fs := m.fs ++ [x] } vc vw v' :=
  ⟨own_keep h.c hg.1 (some_ne (flip_ne h.cf)), own_keep h.w hg.1 (some_ne (flip_ne h.wf)), by simpa using ho, h.cw, flip_ne (ne_of_grew hg h.c (flip_ne h.cf)), flip_ne (ne_of_grew hg h.w (flip_ne h.wf))⟩
theorem set1_size {n q j : Nat} {W : World} {u : Value} (h : n ≤ W.heap.size) : n ≤ (W.setCell ⟨q, j, none⟩ u).heap.size := by simpa using h
theorem setN_size {n q j : Nat} {us : List Value} {W : World} (h : n ≤ W.heap.size) : n ≤ (W.setCells q j us).heap.size := Nat.le_trans h (below_sets (Nat.zero_le q) us j W (Below.refl 0 W)).size
theorem own_open {e : Ending} {w X : World} {t sz n B : Nat} {xs : List Value} (h : ∃ v, e = .returned v ∧ Below w.heap.size w X ∧ X.ownsRow B t sz v n xs) : ∃ v, e = .returned v ∧ ∃ ao cp, v = .slice ao n cp ∧ Below w.heap.size w X ∧ X.ownsRow B t sz (.slice ao n cp) n xs := by
  obtain ⟨v, he, hb, ho⟩ := h
  obtain ⟨ao, cp, rfl⟩ := own_slice ho
  exact ⟨_, he, ao, cp, rfl, hb, ho⟩
theorem own_set1 {w : World} {base e size n q j : Nat} {v u : Value} {xs : List Value} (h : w.ownsRow base e size v n xs) (hn : v.ownBlock = some q → False) : (w.setCell ⟨q, j, none⟩ u).ownsRow base e size v n xs := by
  refine ⟨h.1, ?_⟩
  rcases h.2 with h1 | ⟨g, cap, cur, rfl, hb, hh, h2⟩
  · exact .inl h1
  · refine .inr ⟨g, cap, cur, rfl, hb, ?_, h2⟩
    have : q ≠ g := fun e => hn (by rw [e]; rfl)
    exact (Below.heap_setCell w ⟨q, j, none⟩ u g (Ne.symm this)).trans hh
theorem own_setN {e size n q : Nat} {base : Nat} {v : Value} {xs : List Value} : ∀ (us : List Value) (j : Nat) (w : World), w.ownsRow base e size v n xs → (v.ownBlock = some q → False) → (w.setCells q j us).ownsRow base e size v n xs := by
  intro us
  induction us with
  | nil => intro j w h _; exact h
  | cons u t ih => intro j w h hn; exact ih _ _ (own_set1 h hn) hn
theorem ow_retCell1 {P : Program} {fn : Func} {a : Act} {w : World} {R : Ending → World → Prop} {t : Nat} {ty : TypeId} {ad : Addr} {v : Value} (hr : fn.results = #[.cell t ty]) (hd : a.defers = []) (hv : a.tmps[t]? = some (.pointer (some ad))) (hl : (loadVar ty ad).run P w = .ok v w) (hR : R (.returned v) w) : bodyPost P fn R .ret a w :=
  bodyPost_ret (v := v) (by simp [results, hr, Array.getD_eq_getD_getElem?, hv, asAddr, hl]) hd hR
set_option maxRecDepth 100000 in
set_option maxHeartbeats 4000000 in
theorem copyMq_any (m : Mq) (vc vw vf : Value) (w : World) (hL : m.Lists w vc vw vf) (hcs : m.cs.length ≤ 1000000) (hws : m.ws.length ≤ 1000000) (hfs : m.fs.length ≤ 1000000) :
    Calls Tryd.prog 31 #[m.val vc vw vf] w fun e w' => ∃ v2c v2w v2f, e = .returned (m.val v2c v2w v2f) ∧ Below w.heap.size w w' ∧ MqOwn w' w.heap.size m v2c v2w v2f := by
  have hb0 := Below.refl w.heap.size w
  obtain ⟨ac, cc, rfl, -, -, -, -⟩ := id hL.c
  obtain ⟨aw, cw, rfl, -, -, -, -⟩ := id hL.w
  obtain ⟨af, cf, rfl, -, -, -, -⟩ := id hL.f
  generalize (m.cs.map cn).length = nc at hL ⊢
  generalize (m.ws.map rowWish).length = nw at hL ⊢
  generalize (m.fs.map cs1).length = nf at hL ⊢
  refine ow_enter 18 Tryd.func31 rfl Tryd.ntmps31 (by simp) ?_
  rintro a hsz hdf hargs
  have s_0 : a.tmps[0]? = some (.agg (Mq.row m (.slice ac nc cc) (.slice aw nw cw) (.slice af nf cf)).toArray) := hargs 0 _ rfl
  clear hargs
  refine wp_seq ?_
  refine ow_region [_, _] rfl (by intro o ho; simp only [List.mem_cons, List.not_mem_nil, or_false] at ho; rcases ho with rfl | rfl <;> rfl) ?_
  obtain ⟨q1, hq1⟩ : ∃ x, x = w.heap.size := ⟨_, rfl⟩
  refine ow_run 1 (.pointer (some ⟨q1, 0, none⟩)) (w.alloc (.cells #[.int .i64 m.k, .string m.cl, .bool m.clean, .int .i64 m.keep, .bool m.wI, .string m.wT, .string m.wP, .int .i64 m.wQ, .bool m.wR, .string m.us, .bool m.hu, .string m.pa, .bool m.hp, .bool m.pres, .int .i64 m.code, .slice ac nc cc, .bool m.dup, .int .i64 m.q, .bool m.re, .string m.top, .int .i64 m.id, .string m.pay, .slice aw nw cw, .slice af nf cf] 30)) rfl (by rw [hq1]; exact (run_boxOp (eval_of s_0) (by simp [go_sem, Instr.box]))) ?_
  have hqq1 : w.heap.size ≤ q1 := by rw [hq1]; exact hb0.size
  refine fresh (C := fun x W => wpRun _ _ x W _) (fun x X => _ = x ∧ Below w.heap.size w X ∧ RowAt X q1 (Mq.row m (.slice ac nc cc) (.slice aw nw cw) (.slice af nf cf))) ⟨rfl, (hb0.alloc hb0.size _), (by rw [hq1]; exact rowAt_alloc _ [.int .i64 m.k, .string m.cl, .bool m.clean, .int .i64 m.keep, .bool m.wI, .string m.wT, .string m.wP, .int .i64 m.wQ, .bool m.wR, .string m.us, .bool m.hu, .string m.pa, .bool m.hp, .bool m.pres, .int .i64 m.code, .slice ac nc cc, .bool m.dup, .int .i64 m.q, .bool m.re, .string m.top, .int .i64 m.id, .string m.pay, .slice aw nw cw, .slice af nf cf] _)⟩ ?_
  rintro _ W2 ⟨rfl, hbW2, rW2_0⟩
  clear hq1
  obtain ⟨q3, hq3⟩ : ∃ x, x = W2.heap.size := ⟨_, rfl⟩
  refine ow_run 2 (.pointer (some ⟨q3, 0, none⟩)) (W2.alloc (.cells #[.int .i64 0, .string { data := #[] }, .bool false, .int .i64 0, .bool false, .string { data := #[] }, .string { data := #[] }, .int .i64 0, .bool false, .string { data := #[] }, .bool false, .string { data := #[] }, .bool false, .bool false, .int .i64 0, .slice none 0 0, .bool false, .int .i64 0, .bool false, .string { data := #[] }, .int .i64 0, .string { data := #[] }, .slice none 0 0, .slice none 0 0] 30)) rfl (by rw [hq3]; exact (run_allocOp (by simp [go_sem, Instr.alloc]))) ?_
  have hqq3 : w.heap.size ≤ q3 := by rw [hq3]; exact hbW2.size
  have hnq3_q1 : q1 < q3 := by rw [hq3]; exact rW2_0.2.2
  refine fresh (C := fun x W => wpRun _ _ x W _) (fun x X => _ = x ∧ Below w.heap.size w X ∧ RowAt X q1 (Mq.row m (.slice ac nc cc) (.slice aw nw cw) (.slice af nf cf)) ∧ RowAt X q3 [.int .i64 0, .string { data := #[] }, .bool false, .int .i64 0, .bool false, .string { data := #[] }, .string { data := #[] }, .int .i64 0, .bool false, .string { data := #[] }, .bool false, .string { data := #[] }, .bool false, .bool false, .int .i64 0, .slice none 0 0, .bool false, .int .i64 0, .bool false, .string { data := #[] }, .int .i64 0, .string { data := #[] }, .slice none 0 0, .slice none 0 0]) ⟨rfl, (hbW2.alloc hbW2.size _), (rW2_0.below ((Below.refl _ W2).alloc (Nat.le_refl _) _)), (by rw [hq3]; exact rowAt_alloc _ [.int .i64 0, .string { data := #[] }, .bool false, .int .i64 0, .bool false, .string { data := #[] }, .string { data := #[] }, .int .i64 0, .bool false, .string { data := #[] }, .bool false, .string { data := #[] }, .bool false, .bool false, .int .i64 0, .slice none 0 0, .bool false, .int .i64 0, .bool false, .string { data := #[] }, .int .i64 0, .string { data := #[] }, .slice none 0 0, .slice none 0 0] _)⟩ ?_
  rintro _ W4 ⟨rfl, hbW4, rW4_0, rW4_1⟩
  clear hq3
  refine fresh (C := fun x W => wpRun _ [] x W _) (fun x X => _ = X ∧ x.tmps.size = 18 ∧ x.defers = [] ∧ x.tmps[1]? = some (.pointer (some ⟨q1, 0, none⟩)) ∧ x.tmps[2]? = some (.pointer (some ⟨q3, 0, none⟩))) ⟨rfl, (by simp only [put_size]; exact hsz), (by simp only [put_defers]; exact hdf), (pf1 (by decide) (put_get _ _ _ (by rw [hsz]; decide))), (put_get _ _ _ (by simp only [put_size]; rw [hsz]; decide))⟩ ?_
  clear hsz hdf s_0
  rintro a _ ⟨rfl, hsz, hdf, s_1, s_2⟩
  refine ow_then ?_
  refine wp_seq ?_
  refine ow_region [_, _, _] rfl (by intro o ho; simp only [List.mem_cons, List.not_mem_nil, or_false] at ho; rcases ho with rfl | rfl | rfl <;> rfl) ?_
  refine ow_run 4 (.agg (Mq.row m (.slice ac nc cc) (.slice aw nw cw) (.slice af nf cf)).toArray) _ rfl (run_loadOp (eval_of s_1) (run_loadN [.int .i64 m.k, .string m.cl, .bool m.clean, .int .i64 m.keep, .bool m.wI, .string m.wT, .string m.wP, .int .i64 m.wQ, .bool m.wR, .string m.us, .bool m.hu, .string m.pa, .bool m.hp, .bool m.pres, .int .i64 m.code, .slice ac nc cc, .bool m.dup, .int .i64 m.q, .bool m.re, .string m.top, .int .i64 m.id, .string m.pay, .slice aw nw cw, .slice af nf cf] rW4_0 (fun j v hj => by simpa using hj) Tryd.underlying30 rfl (by kernel_rfl))) ?_
  obtain ⟨q6, hq6⟩ : ∃ x, x = W4.heap.size := ⟨_, rfl⟩
  refine ow_run 3 (.pointer (some ⟨q6, 0, none⟩)) (W4.alloc (.cells #[.int .i64 0, .string { data := #[] }, .bool false, .int .i64 0, .bool false, .string { data := #[] }, .string { data := #[] }, .int .i64 0, .bool false, .string { data := #[] }, .bool false, .string { data := #[] }, .bool false, .bool false, .int .i64 0, .slice none 0 0, .bool false, .int .i64 0, .bool false, .string { data := #[] }, .int .i64 0, .string { data := #[] }, .slice none 0 0, .slice none 0 0] 30)) rfl (by rw [hq6]; exact (run_allocOp (by simp [go_sem, Instr.alloc]))) ?_
  have hqq6 : w.heap.size ≤ q6 := by rw [hq6]; exact hbW4.size
  have hnq6_q1 : q1 < q6 := by rw [hq6]; exact rW4_0.2.2
  have hnq6_q3 : q3 < q6 := by rw [hq6]; exact rW4_1.2.2
  refine fresh (C := fun x W => wpRun _ _ x W _) (fun x X => _ = x ∧ Below w.heap.size w X ∧ RowAt X q1 (Mq.row m (.slice ac nc cc) (.slice aw nw cw) (.slice af nf cf)) ∧ RowAt X q3 [.int .i64 0, .string { data := #[] }, .bool false, .int .i64 0, .bool false, .string { data := #[] }, .string { data := #[] }, .int .i64 0, .bool false, .string { data := #[] }, .bool false, .string { data := #[] }, .bool false, .bool false, .int .i64 0, .slice none 0 0, .bool false, .int .i64 0, .bool false, .string { data := #[] }, .int .i64 0, .string { data := #[] }, .slice none 0 0, .slice none 0 0] ∧ RowAt X q6 [.int .i64 0, .string { data := #[] }, .bool false, .int .i64 0, .bool false, .string { data := #[] }, .string { data := #[] }, .int .i64 0, .bool false, .string { data := #[] }, .bool false, .string { data := #[] }, .bool false, .bool false, .int .i64 0, .slice none 0 0, .bool false, .int .i64 0, .bool false, .string { data := #[] }, .int .i64 0, .string { data := #[] }, .slice none 0 0, .slice none 0 0]) ⟨rfl, (hbW4.alloc hbW4.size _), (rW4_0.below ((Below.refl _ W4).alloc (Nat.le_refl _) _)), (rW4_1.below ((Below.refl _ W4).alloc (Nat.le_refl _) _)), (by rw [hq6]; exact rowAt_alloc _ [.int .i64 0, .string { data := #[] }, .bool false, .int .i64 0, .bool false, .string { data := #[] }, .string { data := #[] }, .int .i64 0, .bool false, .string { data := #[] }, .bool false, .string { data := #[] }, .bool false, .bool false, .int .i64 0, .slice none 0 0, .bool false, .int .i64 0, .bool false, .string { data := #[] }, .int .i64 0, .string { data := #[] }, .slice none 0 0, .slice none 0 0] _)⟩ ?_
  rintro _ W7 ⟨rfl, hbW7, rW7_0, rW7_1, rW7_2⟩
  clear hq6
  refine ow_skip _ rfl (run_storeOp (eval_of (put_get _ _ _ (by simp only [put_size]; rw [hsz]; decide))) (eval_of (pf1 (by decide) (put_get _ _ _ (by rw [hsz]; decide)))) (run_storeN (xs := [.int .i64 m.k, .string m.cl, .bool m.clean, .int .i64 m.keep, .bool m.wI, .string m.wT, .string m.wP, .int .i64 m.wQ, .bool m.wR, .string m.us, .bool m.hu, .string m.pa, .bool m.hp, .bool m.pres, .int .i64 m.code, .slice ac nc cc, .bool m.dup, .int .i64 m.q, .bool m.re, .string m.top, .int .i64 m.id, .string m.pay, .slice aw nw cw, .slice af nf cf]) rW7_2 (by simp) (by kernel_rfl) rfl)) ?_
  refine fresh (C := fun x W => wpRun _ _ x W _) (fun x X => _ = x ∧ Below w.heap.size w X ∧ RowAt X q1 (Mq.row m (.slice ac nc cc) (.slice aw nw cw) (.slice af nf cf)) ∧ RowAt X q3 [.int .i64 0, .string { data := #[] }, .bool false, .int .i64 0, .bool false, .string { data := #[] }, .string { data := #[] }, .int .i64 0, .bool false, .string { data := #[] }, .bool false, .string { data := #[] }, .bool false, .bool false, .int .i64 0, .slice none 0 0, .bool false, .int .i64 0, .bool false, .string { data := #[] }, .int .i64 0, .string { data := #[] }, .slice none 0 0, .slice none 0 0] ∧ RowAt X q6 (Mq.row m (.slice ac nc cc) (.slice aw nw cw) (.slice af nf cf))) ⟨rfl, (below_sets (by omega) _ _ _ hbW7), (RowAt.sets_other _ _ _ rW7_0 (by omega)), (RowAt.sets_other _ _ _ rW7_1 (by omega)), (RowAt.sets [.int .i64 m.k, .string m.cl, .bool m.clean, .int .i64 m.keep, .bool m.wI, .string m.wT, .string m.wP, .int .i64 m.wQ, .bool m.wR, .string m.us, .bool m.hu, .string m.pa, .bool m.hp, .bool m.pres, .int .i64 m.code, .slice ac nc cc, .bool m.dup, .int .i64 m.q, .bool m.re, .string m.top, .int .i64 m.id, .string m.pay, .slice aw nw cw, .slice af nf cf] 0 _ _ rW7_2 (by simp))⟩ ?_
  rintro _ W8 ⟨rfl, hbW8, rW8_0, rW8_1, rW8_2⟩
  refine fresh (C := fun x W => wpRun _ [] x W _) (fun x X => _ = X ∧ x.tmps.size = 18 ∧ x.defers = [] ∧ x.tmps[1]? = some (.pointer (some ⟨q1, 0, none⟩)) ∧ x.tmps[2]? = some (.pointer (some ⟨q3, 0, none⟩)) ∧ x.tmps[3]? = some (.pointer (some ⟨q6, 0, none⟩))) ⟨rfl, (by simp only [put_size]; exact hsz), (by simp only [put_defers]; exact hdf), (pf2 (by decide) s_1), (pf2 (by decide) s_2), (put_get _ _ _ (by simp only [put_size]; rw [hsz]; decide))⟩ ?_
  clear hsz hdf s_1 s_2
  rintro a _ ⟨rfl, hsz, hdf, s_1, s_2, s_3⟩
  refine ow_then ?_
  refine wp_seq ?_
  refine ow_region [_, _, _, _, _] rfl (by intro o ho; simp only [List.mem_cons, List.not_mem_nil, or_false] at ho; rcases ho with rfl | rfl | rfl | rfl | rfl <;> rfl) ?_
  refine ow_run 5 (.pointer (some ⟨q1, 15, none⟩)) _ rfl (run_fieldAddr (eval_of s_1) (by simp [go_sem, Instr.fieldAt])) ?_
  refine ow_run 6 (.slice ac nc cc) _ rfl (run_loadOp (eval_of (put_get _ _ _ (by rw [hsz]; decide))) (by simp [go_sem, Instr.loadAt, rW8_0.cell (j := 15) rfl])) ?_
  have hltc_q1 := rW8_0.2.2
  have hltc_q3 := rW8_1.2.2
  have hltc_q6 := rW8_2.2.2
  refine ow_call 7 (fun v X => ∃ ao cp, v = .slice ao m.cs.length cp ∧ Below W8.heap.size W8 X ∧ X.ownsRow W8.heap.size 3 1 (.slice ao m.cs.length cp) m.cs.length (m.cs.map (fun x => (.int .i64 x : Value)))) rfl _ _ (run_callOp Tryd.func55 rfl rfl (arr1 (eval_of (put_get _ _ _ (by simp only [put_size]; rw [hsz]; decide))))) ((copyNumbers_any _ m.cs W8 hcs (hL.below hbW8).c).mono fun e X h => own_open h) ?_
  rintro _ V11 ⟨a2c, c2c, rfl, hb10, hoc⟩
  refine fresh (C := fun x W => wpRun _ _ x W _) (fun x X => _ = x ∧ Below w.heap.size w X ∧ RowAt X q1 (Mq.row m (.slice ac nc cc) (.slice aw nw cw) (.slice af nf cf)) ∧ RowAt X q3 [.int .i64 0, .string { data := #[] }, .bool false, .int .i64 0, .bool false, .string { data := #[] }, .string { data := #[] }, .int .i64 0, .bool false, .string { data := #[] }, .bool false, .string { data := #[] }, .bool false, .bool false, .int .i64 0, .slice none 0 0, .bool false, .int .i64 0, .bool false, .string { data := #[] }, .int .i64 0, .string { data := #[] }, .slice none 0 0, .slice none 0 0] ∧ RowAt X q6 (Mq.row m (.slice ac nc cc) (.slice aw nw cw) (.slice af nf cf)) ∧ X.ownsRow W8.heap.size 3 1 (.slice a2c m.cs.length c2c) m.cs.length (m.cs.map (fun x => (.int .i64 x : Value)))) ⟨rfl, (hbW8.trans (hb10.mono hbW8.size)), (rW8_0.below hb10), (rW8_1.below hb10), (rW8_2.below hb10), hoc⟩ ?_
  rintro _ W12 ⟨rfl, hbW12, rW12_0, rW12_1, rW12_2, fW12_0⟩
  have hloc : ∀ k, (Value.slice a2c m.cs.length c2c).ownBlock = some k → W8.heap.size ≤ k ∧ k < W12.heap.size := fun k hk => own_lt fW12_0 hk
  have hxcq1 : ∀ k, (Value.slice a2c m.cs.length c2c).ownBlock = some k → k ≠ q1 := fun k hk => by have h1 := hloc k hk; have h2 := hltc_q1; omega
  have hxcq3 : ∀ k, (Value.slice a2c m.cs.length c2c).ownBlock = some k → k ≠ q3 := fun k hk => by have h1 := hloc k hk; have h2 := hltc_q3; omega
  have hxcq6 : ∀ k, (Value.slice a2c m.cs.length c2c).ownBlock = some k → k ≠ q6 := fun k hk => by have h1 := hloc k hk; have h2 := hltc_q6; omega
  have hzc := Nat.le_refl W12.heap.size
  refine ow_run 8 (.pointer (some ⟨q6, 15, none⟩)) _ rfl (run_fieldAddr (eval_of (pf1 (by decide) (pf2 (by decide) s_3))) (by simp [go_sem, Instr.fieldAt])) ?_
  refine ow_skip _ rfl (run_storeOp (eval_of (put_get _ _ _ (by simp only [put_size]; rw [hsz]; decide))) (eval_of (pf1 (by decide) (put_get _ _ _ (by simp only [put_size]; rw [hsz]; decide)))) (run_store1 rW12_2 (by simp) (by kernel_rfl) rfl)) ?_
  refine fresh (C := fun x W => wpRun _ _ x W _) (fun x X => _ = x ∧ Below w.heap.size w X ∧ RowAt X q1 (Mq.row m (.slice ac nc cc) (.slice aw nw cw) (.slice af nf cf)) ∧ RowAt X q3 [.int .i64 0, .string { data := #[] }, .bool false, .int .i64 0, .bool false, .string { data := #[] }, .string { data := #[] }, .int .i64 0, .bool false, .string { data := #[] }, .bool false, .string { data := #[] }, .bool false, .bool false, .int .i64 0, .slice none 0 0, .bool false, .int .i64 0, .bool false, .string { data := #[] }, .int .i64 0, .string { data := #[] }, .slice none 0 0, .slice none 0 0] ∧ RowAt X q6 (Mq.row m (.slice a2c m.cs.length c2c) (.slice aw nw cw) (.slice af nf cf)) ∧ X.ownsRow W8.heap.size 3 1 (.slice a2c m.cs.length c2c) m.cs.length (m.cs.map (fun x => (.int .i64 x : Value))) ∧ W12.heap.size ≤ X.heap.size) ⟨rfl, (below_set1 hbW12 (by omega)), (rW12_0.other (by omega)), (rW12_1.other (by omega)), (rW12_2.set1 15 _ (by simp)), (own_set1 fW12_0 (fun hk => hxcq6 _ hk rfl)), (set1_size hzc)⟩ ?_
  rintro _ W13 ⟨rfl, hbW13, rW13_0, rW13_1, rW13_2, fW13_0, fW13_1⟩
  refine fresh (C := fun x W => wpRun _ [] x W _) (fun x X => _ = X ∧ x.tmps.size = 18 ∧ x.defers = [] ∧ x.tmps[1]? = some (.pointer (some ⟨q1, 0, none⟩)) ∧ x.tmps[2]? = some (.pointer (some ⟨q3, 0, none⟩)) ∧ x.tmps[3]? = some (.pointer (some ⟨q6, 0, none⟩))) ⟨rfl, (by simp only [put_size]; exact hsz), (by simp only [put_defers]; exact hdf), (pf4 (by decide) s_1), (pf4 (by decide) s_2), (pf4 (by decide) s_3)⟩ ?_
  clear hsz hdf s_1 s_2 s_3
  rintro a _ ⟨rfl, hsz, hdf, s_1, s_2, s_3⟩
  refine ow_then ?_
  refine wp_seq ?_
  refine ow_region [_, _, _, _, _] rfl (by intro o ho; simp only [List.mem_cons, List.not_mem_nil, or_false] at ho; rcases ho with rfl | rfl | rfl | rfl | rfl <;> rfl) ?_
  refine ow_run 9 (.pointer (some ⟨q1, 22, none⟩)) _ rfl (run_fieldAddr (eval_of s_1) (by simp [go_sem, Instr.fieldAt])) ?_
  refine ow_run 10 (.slice aw nw cw) _ rfl (run_loadOp (eval_of (put_get _ _ _ (by rw [hsz]; decide))) (by simp [go_sem, Instr.loadAt, rW13_0.cell (j := 22) rfl])) ?_
  have hltw_q1 := rW13_0.2.2
  have hltw_q3 := rW13_1.2.2
  have hltw_q6 := rW13_2.2.2
  refine ow_call 11 (fun v X => ∃ ao cp, v = .slice ao m.ws.length cp ∧ Below W13.heap.size W13 X ∧ X.ownsRow W13.heap.size 93 2 (.slice ao m.ws.length cp) m.ws.length (m.ws.map rowWish).flatten) rfl _ _ (run_callOp Tryd.func56 rfl rfl (arr1 (eval_of (put_get _ _ _ (by simp only [put_size]; rw [hsz]; decide))))) ((copyWishes_any _ m.ws W13 hws (hL.below hbW13).w).mono fun e X h => own_open h) ?_
  rintro _ V16 ⟨a2w, c2w, rfl, hb15, how⟩
  refine fresh (C := fun x W => wpRun _ _ x W _) (fun x X => _ = x ∧ Below w.heap.size w X ∧ RowAt X q1 (Mq.row m (.slice ac nc cc) (.slice aw nw cw) (.slice af nf cf)) ∧ RowAt X q3 [.int .i64 0, .string { data := #[] }, .bool false, .int .i64 0, .bool false, .string { data := #[] }, .string { data := #[] }, .int .i64 0, .bool false, .string { data := #[] }, .bool false, .string { data := #[] }, .bool false, .bool false, .int .i64 0, .slice none 0 0, .bool false, .int .i64 0, .bool false, .string { data := #[] }, .int .i64 0, .string { data := #[] }, .slice none 0 0, .slice none 0 0] ∧ RowAt X q6 (Mq.row m (.slice a2c m.cs.length c2c) (.slice aw nw cw) (.slice af nf cf)) ∧ X.ownsRow W8.heap.size 3 1 (.slice a2c m.cs.length c2c) m.cs.length (m.cs.map (fun x => (.int .i64 x : Value))) ∧ W12.heap.size ≤ X.heap.size ∧ X.ownsRow W13.heap.size 93 2 (.slice a2w m.ws.length c2w) m.ws.length (m.ws.map rowWish).flatten) ⟨rfl, (hbW13.trans (hb15.mono hbW13.size)), (rW13_0.below hb15), (rW13_1.below hb15), (rW13_2.below hb15), (below_own fW13_0 hb15), (Nat.le_trans fW13_1 hb15.size), how⟩ ?_
  rintro _ W17 ⟨rfl, hbW17, rW17_0, rW17_1, rW17_2, fW17_0, fW17_1, fW17_2⟩
  have hlow : ∀ k, (Value.slice a2w m.ws.length c2w).ownBlock = some k → W13.heap.size ≤ k ∧ k < W17.heap.size := fun k hk => own_lt fW17_2 hk
  have hxwq1 : ∀ k, (Value.slice a2w m.ws.length c2w).ownBlock = some k → k ≠ q1 := fun k hk => by have h1 := hlow k hk; have h2 := hltw_q1; omega
  have hxwq3 : ∀ k, (Value.slice a2w m.ws.length c2w).ownBlock = some k → k ≠ q3 := fun k hk => by have h1 := hlow k hk; have h2 := hltw_q3; omega
  have hxwq6 : ∀ k, (Value.slice a2w m.ws.length c2w).ownBlock = some k → k ≠ q6 := fun k hk => by have h1 := hlow k hk; have h2 := hltw_q6; omega
  have hzw := Nat.le_refl W17.heap.size
  refine ow_run 12 (.pointer (some ⟨q6, 22, none⟩)) _ rfl (run_fieldAddr (eval_of (pf1 (by decide) (pf2 (by decide) s_3))) (by simp [go_sem, Instr.fieldAt])) ?_
  refine ow_skip _ rfl (run_storeOp (eval_of (put_get _ _ _ (by simp only [put_size]; rw [hsz]; decide))) (eval_of (pf1 (by decide) (put_get _ _ _ (by simp only [put_size]; rw [hsz]; decide)))) (run_store1 rW17_2 (by simp) (by kernel_rfl) rfl)) ?_
  refine fresh (C := fun x W => wpRun _ _ x W _) (fun x X => _ = x ∧ Below w.heap.size w X ∧ RowAt X q1 (Mq.row m (.slice ac nc cc) (.slice aw nw cw) (.slice af nf cf)) ∧ RowAt X q3 [.int .i64 0, .string { data := #[] }, .bool false, .int .i64 0, .bool false, .string { data := #[] }, .string { data := #[] }, .int .i64 0, .bool false, .string { data := #[] }, .bool false, .string { data := #[] }, .bool false, .bool false, .int .i64 0, .slice none 0 0, .bool false, .int .i64 0, .bool false, .string { data := #[] }, .int .i64 0, .string { data := #[] }, .slice none 0 0, .slice none 0 0] ∧ RowAt X q6 (Mq.row m (.slice a2c m.cs.length c2c) (.slice a2w m.ws.length c2w) (.slice af nf cf)) ∧ X.ownsRow W8.heap.size 3 1 (.slice a2c m.cs.length c2c) m.cs.length (m.cs.map (fun x => (.int .i64 x : Value))) ∧ W12.heap.size ≤ X.heap.size ∧ X.ownsRow W13.heap.size 93 2 (.slice a2w m.ws.length c2w) m.ws.length (m.ws.map rowWish).flatten ∧ W17.heap.size ≤ X.heap.size) ⟨rfl, (below_set1 hbW17 (by omega)), (rW17_0.other (by omega)), (rW17_1.other (by omega)), (rW17_2.set1 22 _ (by simp)), (own_set1 fW17_0 (fun hk => hxcq6 _ hk rfl)), (set1_size fW17_1), (own_set1 fW17_2 (fun hk => hxwq6 _ hk rfl)), (set1_size hzw)⟩ ?_
  rintro _ W18 ⟨rfl, hbW18, rW18_0, rW18_1, rW18_2, fW18_0, fW18_1, fW18_2, fW18_3⟩
  refine fresh (C := fun x W => wpRun _ [] x W _) (fun x X => _ = X ∧ x.tmps.size = 18 ∧ x.defers = [] ∧ x.tmps[1]? = some (.pointer (some ⟨q1, 0, none⟩)) ∧ x.tmps[2]? = some (.pointer (some ⟨q3, 0, none⟩)) ∧ x.tmps[3]? = some (.pointer (some ⟨q6, 0, none⟩))) ⟨rfl, (by simp only [put_size]; exact hsz), (by simp only [put_defers]; exact hdf), (pf4 (by decide) s_1), (pf4 (by decide) s_2), (pf4 (by decide) s_3)⟩ ?_
  clear hsz hdf s_1 s_2 s_3
  rintro a _ ⟨rfl, hsz, hdf, s_1, s_2, s_3⟩
  refine ow_then ?_
  refine wp_seq ?_
  refine ow_region [_, _, _, _, _] rfl (by intro o ho; simp only [List.mem_cons, List.not_mem_nil, or_false] at ho; rcases ho with rfl | rfl | rfl | rfl | rfl <;> rfl) ?_
  refine ow_run 13 (.pointer (some ⟨q1, 23, none⟩)) _ rfl (run_fieldAddr (eval_of s_1) (by simp [go_sem, Instr.fieldAt])) ?_
  refine ow_run 14 (.slice af nf cf) _ rfl (run_loadOp (eval_of (put_get _ _ _ (by rw [hsz]; decide))) (by simp [go_sem, Instr.loadAt, rW18_0.cell (j := 23) rfl])) ?_
  have hltf_q1 := rW18_0.2.2
  have hltf_q3 := rW18_1.2.2
  have hltf_q6 := rW18_2.2.2
  refine ow_call 15 (fun v X => ∃ ao cp, v = .slice ao m.fs.length cp ∧ Below W18.heap.size W18 X ∧ X.ownsRow W18.heap.size 9 1 (.slice ao m.fs.length cp) m.fs.length (m.fs.map (fun x => (.string x : Value)))) rfl _ _ (run_callOp Tryd.func57 rfl rfl (arr1 (eval_of (put_get _ _ _ (by simp only [put_size]; rw [hsz]; decide))))) ((copyStrings_any _ m.fs W18 hfs (hL.below hbW18).f).mono fun e X h => own_open h) ?_
  rintro _ V21 ⟨a2f, c2f, rfl, hb20, hof⟩
  refine fresh (C := fun x W => wpRun _ _ x W _) (fun x X => _ = x ∧ Below w.heap.size w X ∧ RowAt X q1 (Mq.row m (.slice ac nc cc) (.slice aw nw cw) (.slice af nf cf)) ∧ RowAt X q3 [.int .i64 0, .string { data := #[] }, .bool false, .int .i64 0, .bool false, .string { data := #[] }, .string { data := #[] }, .int .i64 0, .bool false, .string { data := #[] }, .bool false, .string { data := #[] }, .bool false, .bool false, .int .i64 0, .slice none 0 0, .bool false, .int .i64 0, .bool false, .string { data := #[] }, .int .i64 0, .string { data := #[] }, .slice none 0 0, .slice none 0 0] ∧ RowAt X q6 (Mq.row m (.slice a2c m.cs.length c2c) (.slice a2w m.ws.length c2w) (.slice af nf cf)) ∧ X.ownsRow W8.heap.size 3 1 (.slice a2c m.cs.length c2c) m.cs.length (m.cs.map (fun x => (.int .i64 x : Value))) ∧ W12.heap.size ≤ X.heap.size ∧ X.ownsRow W13.heap.size 93 2 (.slice a2w m.ws.length c2w) m.ws.length (m.ws.map rowWish).flatten ∧ W17.heap.size ≤ X.heap.size ∧ X.ownsRow W18.heap.size 9 1 (.slice a2f m.fs.length c2f) m.fs.length (m.fs.map (fun x => (.string x : Value)))) ⟨rfl, (hbW18.trans (hb20.mono hbW18.size)), (rW18_0.below hb20), (rW18_1.below hb20), (rW18_2.below hb20), (below_own fW18_0 hb20), (Nat.le_trans fW18_1 hb20.size), (below_own fW18_2 hb20), (Nat.le_trans fW18_3 hb20.size), hof⟩ ?_
  rintro _ W22 ⟨rfl, hbW22, rW22_0, rW22_1, rW22_2, fW22_0, fW22_1, fW22_2, fW22_3, fW22_4⟩
  have hlof : ∀ k, (Value.slice a2f m.fs.length c2f).ownBlock = some k → W18.heap.size ≤ k ∧ k < W22.heap.size := fun k hk => own_lt fW22_4 hk
  have hxfq1 : ∀ k, (Value.slice a2f m.fs.length c2f).ownBlock = some k → k ≠ q1 := fun k hk => by have h1 := hlof k hk; have h2 := hltf_q1; omega
  have hxfq3 : ∀ k, (Value.slice a2f m.fs.length c2f).ownBlock = some k → k ≠ q3 := fun k hk => by have h1 := hlof k hk; have h2 := hltf_q3; omega
  have hxfq6 : ∀ k, (Value.slice a2f m.fs.length c2f).ownBlock = some k → k ≠ q6 := fun k hk => by have h1 := hlof k hk; have h2 := hltf_q6; omega
  have hzf := Nat.le_refl W22.heap.size
  refine ow_run 16 (.pointer (some ⟨q6, 23, none⟩)) _ rfl (run_fieldAddr (eval_of (pf1 (by decide) (pf2 (by decide) s_3))) (by simp [go_sem, Instr.fieldAt])) ?_
  refine ow_skip _ rfl (run_storeOp (eval_of (put_get _ _ _ (by simp only [put_size]; rw [hsz]; decide))) (eval_of (pf1 (by decide) (put_get _ _ _ (by simp only [put_size]; rw [hsz]; decide)))) (run_store1 rW22_2 (by simp) (by kernel_rfl) rfl)) ?_
  refine fresh (C := fun x W => wpRun _ _ x W _) (fun x X => _ = x ∧ Below w.heap.size w X ∧ RowAt X q1 (Mq.row m (.slice ac nc cc) (.slice aw nw cw) (.slice af nf cf)) ∧ RowAt X q3 [.int .i64 0, .string { data := #[] }, .bool false, .int .i64 0, .bool false, .string { data := #[] }, .string { data := #[] }, .int .i64 0, .bool false, .string { data := #[] }, .bool false, .string { data := #[] }, .bool false, .bool false, .int .i64 0, .slice none 0 0, .bool false, .int .i64 0, .bool false, .string { data := #[] }, .int .i64 0, .string { data := #[] }, .slice none 0 0, .slice none 0 0] ∧ RowAt X q6 (Mq.row m (.slice a2c m.cs.length c2c) (.slice a2w m.ws.length c2w) (.slice a2f m.fs.length c2f)) ∧ X.ownsRow W8.heap.size 3 1 (.slice a2c m.cs.length c2c) m.cs.length (m.cs.map (fun x => (.int .i64 x : Value))) ∧ W12.heap.size ≤ X.heap.size ∧ X.ownsRow W13.heap.size 93 2 (.slice a2w m.ws.length c2w) m.ws.length (m.ws.map rowWish).flatten ∧ W17.heap.size ≤ X.heap.size ∧ X.ownsRow W18.heap.size 9 1 (.slice a2f m.fs.length c2f) m.fs.length (m.fs.map (fun x => (.string x : Value))) ∧ W22.heap.size ≤ X.heap.size) ⟨rfl, (below_set1 hbW22 (by omega)), (rW22_0.other (by omega)), (rW22_1.other (by omega)), (rW22_2.set1 23 _ (by simp)), (own_set1 fW22_0 (fun hk => hxcq6 _ hk rfl)), (set1_size fW22_1), (own_set1 fW22_2 (fun hk => hxwq6 _ hk rfl)), (set1_size fW22_3), (own_set1 fW22_4 (fun hk => hxfq6 _ hk rfl)), (set1_size hzf)⟩ ?_
  rintro _ W23 ⟨rfl, hbW23, rW23_0, rW23_1, rW23_2, fW23_0, fW23_1, fW23_2, fW23_3, fW23_4, fW23_5⟩
  refine fresh (C := fun x W => wpRun _ [] x W _) (fun x X => _ = X ∧ x.tmps.size = 18 ∧ x.defers = [] ∧ x.tmps[2]? = some (.pointer (some ⟨q3, 0, none⟩)) ∧ x.tmps[3]? = some (.pointer (some ⟨q6, 0, none⟩))) ⟨rfl, (by simp only [put_size]; exact hsz), (by simp only [put_defers]; exact hdf), (pf4 (by decide) s_2), (pf4 (by decide) s_3)⟩ ?_
  clear hsz hdf s_1 s_2 s_3
  rintro a _ ⟨rfl, hsz, hdf, s_2, s_3⟩
  refine ow_then ?_
  refine wp_seq ?_
  refine ow_region [_, _] rfl (by intro o ho; simp only [List.mem_cons, List.not_mem_nil, or_false] at ho; rcases ho with rfl | rfl <;> rfl) ?_
  refine ow_run 17 (.agg (Mq.row m (.slice a2c m.cs.length c2c) (.slice a2w m.ws.length c2w) (.slice a2f m.fs.length c2f)).toArray) _ rfl (run_loadOp (eval_of s_3) (run_loadN [.int .i64 m.k, .string m.cl, .bool m.clean, .int .i64 m.keep, .bool m.wI, .string m.wT, .string m.wP, .int .i64 m.wQ, .bool m.wR, .string m.us, .bool m.hu, .string m.pa, .bool m.hp, .bool m.pres, .int .i64 m.code, .slice a2c m.cs.length c2c, .bool m.dup, .int .i64 m.q, .bool m.re, .string m.top, .int .i64 m.id, .string m.pay, .slice a2w m.ws.length c2w, .slice a2f m.fs.length c2f] rW23_2 (fun j v hj => by simpa using hj) Tryd.underlying30 rfl (by kernel_rfl))) ?_
  refine ow_skip _ rfl (run_storeOp (eval_of (pf1 (by decide) s_2)) (eval_of (put_get _ _ _ (by rw [hsz]; decide))) (run_storeN (xs := [.int .i64 m.k, .string m.cl, .bool m.clean, .int .i64 m.keep, .bool m.wI, .string m.wT, .string m.wP, .int .i64 m.wQ, .bool m.wR, .string m.us, .bool m.hu, .string m.pa, .bool m.hp, .bool m.pres, .int .i64 m.code, .slice a2c m.cs.length c2c, .bool m.dup, .int .i64 m.q, .bool m.re, .string m.top, .int .i64 m.id, .string m.pay, .slice a2w m.ws.length c2w, .slice a2f m.fs.length c2f]) rW23_1 (by simp) (by kernel_rfl) rfl)) ?_
  refine fresh (C := fun x W => wpRun _ _ x W _) (fun x X => _ = x ∧ Below w.heap.size w X ∧ RowAt X q1 (Mq.row m (.slice ac nc cc) (.slice aw nw cw) (.slice af nf cf)) ∧ RowAt X q3 (Mq.row m (.slice a2c m.cs.length c2c) (.slice a2w m.ws.length c2w) (.slice a2f m.fs.length c2f)) ∧ RowAt X q6 (Mq.row m (.slice a2c m.cs.length c2c) (.slice a2w m.ws.length c2w) (.slice a2f m.fs.length c2f)) ∧ X.ownsRow W8.heap.size 3 1 (.slice a2c m.cs.length c2c) m.cs.length (m.cs.map (fun x => (.int .i64 x : Value))) ∧ W12.heap.size ≤ X.heap.size ∧ X.ownsRow W13.heap.size 93 2 (.slice a2w m.ws.length c2w) m.ws.length (m.ws.map rowWish).flatten ∧ W17.heap.size ≤ X.heap.size ∧ X.ownsRow W18.heap.size 9 1 (.slice a2f m.fs.length c2f) m.fs.length (m.fs.map (fun x => (.string x : Value))) ∧ W22.heap.size ≤ X.heap.size) ⟨rfl, (below_sets (by omega) _ _ _ hbW23), (RowAt.sets_other _ _ _ rW23_0 (by omega)), (RowAt.sets [.int .i64 m.k, .string m.cl, .bool m.clean, .int .i64 m.keep, .bool m.wI, .string m.wT, .string m.wP, .int .i64 m.wQ, .bool m.wR, .string m.us, .bool m.hu, .string m.pa, .bool m.hp, .bool m.pres, .int .i64 m.code, .slice a2c m.cs.length c2c, .bool m.dup, .int .i64 m.q, .bool m.re, .string m.top, .int .i64 m.id, .string m.pay, .slice a2w m.ws.length c2w, .slice a2f m.fs.length c2f] 0 _ _ rW23_1 (by simp)), (RowAt.sets_other _ _ _ rW23_2 (by omega)), (own_setN _ _ _ fW23_0 (fun hk => hxcq3 _ hk rfl)), (setN_size fW23_1), (own_setN _ _ _ fW23_2 (fun hk => hxwq3 _ hk rfl)), (setN_size fW23_3), (own_setN _ _ _ fW23_4 (fun hk => hxfq3 _ hk rfl)), (setN_size fW23_5)⟩ ?_
  rintro _ W25 ⟨rfl, hbW25, rW25_0, rW25_1, rW25_2, fW25_0, fW25_1, fW25_2, fW25_3, fW25_4, fW25_5⟩
  refine fresh (C := fun x W => wpRun _ [] x W _) (fun x X => _ = X ∧ x.tmps.size = 18 ∧ x.defers = [] ∧ x.tmps[2]? = some (.pointer (some ⟨q3, 0, none⟩))) ⟨rfl, (by simp only [put_size]; exact hsz), (by simp only [put_defers]; exact hdf), (pf1 (by decide) s_2)⟩ ?_
  clear hsz hdf s_2 s_3
  rintro a _ ⟨rfl, hsz, hdf, s_2⟩
  refine ow_then ?_
  refine wp_ret ?_
  exact ow_retCell1 rfl hdf s_2 (run_loadVar_mid _ _ 0 _ [.int .i64 m.k, .string m.cl, .bool m.clean, .int .i64 m.keep, .bool m.wI, .string m.wT, .string m.wP, .int .i64 m.wQ, .bool m.wR, .string m.us, .bool m.hu, .string m.pa, .bool m.hp, .bool m.pres, .int .i64 m.code, .slice a2c m.cs.length c2c, .bool m.dup, .int .i64 m.q, .bool m.re, .string m.top, .int .i64 m.id, .string m.pay, .slice a2w m.ws.length c2w, .slice a2f m.fs.length c2f] _ (rW25_1.range 0 _ (fun j v hj => by simpa using hj)) Tryd.underlying30 rfl (by kernel_rfl)) ⟨_, _, _, rfl, hbW25, own_mono fW25_0 hbW8.size, own_mono fW25_2 hbW13.size, own_mono fW25_4 hbW18.size, fun k h1 h2 => by have g1 := hloc k h1; have g2 := hlow k h2; omega, fun k h1 h2 => by have g1 := hloc k h1; have g2 := hlof k h2; omega, fun k h1 h2 => by have g1 := hlow k h1; have g2 := hlof k h2; omega⟩
end Go.Proofs.YtodmcjeffhkofaaDoor
