/-
  Values of operations, for walks over letters.
-/
import Derived.Test.YtpgnlhfokffioaaDoorOw
import Derived.Test.YtpgnlhfokffioaaDoorOw2
import Derived.Test.YtpgnlhfokffioaaDoorBase
import Derived.Test.YtpgnlhfokffioaaDoorOwn
namespace Go.Proofs.YtpgnlhfokffioaaDoor
open Go.RowKit
section
variable {ρ : Operand → Value} {d : Option Tmp} {ty : TypeId} {pos : String} {af : Array Edge} {g : Option (Nat × Bool)} {w : World} {P : Program}
theorem arr4 {x0 x1 x2 x3 : Operand} {u0 u1 u2 u3 : Value} (h0 : ρ x0 = u0) (h1 : ρ x1 = u1) (h2 : ρ x2 = u2) (h3 : ρ x3 = u3) : #[x0, x1, x2, x3].map ρ = #[u0, u1, u2, u3] := by simp [h0, h1, h2, h3]
theorem arr5 {x0 x1 x2 x3 x4 : Operand} {u0 u1 u2 u3 u4 : Value} (h0 : ρ x0 = u0) (h1 : ρ x1 = u1) (h2 : ρ x2 = u2) (h3 : ρ x3 = u3) (h4 : ρ x4 = u4) : #[x0, x1, x2, x3, x4].map ρ = #[u0, u1, u2, u3, u4] := by simp [h0, h1, h2, h3, h4]
theorem arr6 {x0 x1 x2 x3 x4 x5 : Operand} {u0 u1 u2 u3 u4 u5 : Value} (h0 : ρ x0 = u0) (h1 : ρ x1 = u1) (h2 : ρ x2 = u2) (h3 : ρ x3 = u3) (h4 : ρ x4 = u4) (h5 : ρ x5 = u5) : #[x0, x1, x2, x3, x4, x5].map ρ = #[u0, u1, u2, u3, u4, u5] := by simp [h0, h1, h2, h3, h4, h5]
theorem arr7 {x0 x1 x2 x3 x4 x5 x6 : Operand} {u0 u1 u2 u3 u4 u5 u6 : Value} (h0 : ρ x0 = u0) (h1 : ρ x1 = u1) (h2 : ρ x2 = u2) (h3 : ρ x3 = u3) (h4 : ρ x4 = u4) (h5 : ρ x5 = u5) (h6 : ρ x6 = u6) : #[x0, x1, x2, x3, x4, x5, x6].map ρ = #[u0, u1, u2, u3, u4, u5, u6] := by simp [h0, h1, h2, h3, h4, h5, h6]
theorem arr8 {x0 x1 x2 x3 x4 x5 x6 x7 : Operand} {u0 u1 u2 u3 u4 u5 u6 u7 : Value} (h0 : ρ x0 = u0) (h1 : ρ x1 = u1) (h2 : ρ x2 = u2) (h3 : ρ x3 = u3) (h4 : ρ x4 = u4) (h5 : ρ x5 = u5) (h6 : ρ x6 = u6) (h7 : ρ x7 = u7) : #[x0, x1, x2, x3, x4, x5, x6, x7].map ρ = #[u0, u1, u2, u3, u4, u5, u6, u7] := by simp [h0, h1, h2, h3, h4, h5, h6, h7]
theorem run_min2 {ts : Array TypeId} {x y : Operand} {a b c : Int} (hx : ρ x = .int .i64 a) (hy : ρ y = .int .i64 b) (h : min a b = c) :
    (execOp ρ ⟨d, .call { callee := .builtin .min, args := #[x, y], argTypes := ts }, ty, pos, af, g⟩).run P w = .ok (.value (.int .i64 c)) w := by
  have e : (if b < a then b else a) = min a b := by omega
  subst h
  simp [hx, hy, go_sem, e]
theorem run_min3 {ts : Array TypeId} {x y z : Operand} {a b c r : Int} (hx : ρ x = .int .i64 a) (hy : ρ y = .int .i64 b) (hz : ρ z = .int .i64 c) (h : min a (min b c) = r) :
    (execOp ρ ⟨d, .call { callee := .builtin .min, args := #[x, y, z], argTypes := ts }, ty, pos, af, g⟩).run P w = .ok (.value (.int .i64 r)) w := by
  have e : (if c < (if b < a then b else a) then c else (if b < a then b else a)) = min a (min b c) := by omega
  subst h
  simp [hx, hy, hz, go_sem, e]
theorem run_max2 {ts : Array TypeId} {x y : Operand} {a b c : Int} (hx : ρ x = .int .i64 a) (hy : ρ y = .int .i64 b) (h : max a b = c) :
    (execOp ρ ⟨d, .call { callee := .builtin .max, args := #[x, y], argTypes := ts }, ty, pos, af, g⟩).run P w = .ok (.value (.int .i64 c)) w := by
  have e : (if a < b then b else a) = max a b := by omega
  subst h
  simp [hx, hy, go_sem, e]
theorem run_lenAny {ts : Array TypeId} {x : Operand} {ao : Option Addr} {n c : Nat} {t e : TypeId} (ht : P.underlying t = some (.slice e)) (hts : ts = #[t]) (hx : ρ x = .slice ao n c) :
    (execOp ρ ⟨d, .call { callee := .builtin .len, args := #[x], argTypes := ts }, ty, pos, af, g⟩).run P w = .ok (.value (.int .i64 n)) w := by subst hts; exact run_lenOp ht hx
end
theorem wrap_in (c : Int) (h1 : -9223372036854775808 ≤ c) (h2 : c < 9223372036854775808) : IntKind.i64.wrap c = c := wrap_i64 c h1 h2
section
variable (w : World)
theorem eqIntI (s t : Int) (op : BinOp) (x y : Operand) (t0 : TypeId) : (eqGuard op t0 x y (.int .i64 s) (.int .i64 t)).run Tryd.prog w = .ok () w := by cases op <;> rfl
theorem eqBoolI (s t : Bool) (op : BinOp) (x y : Operand) (t0 : TypeId) : (eqGuard op t0 x y (.bool s) (.bool t)).run Tryd.prog w = .ok () w := by cases op <;> rfl
theorem addIw (x y c : Int) (h : x + y = c) (h1 : -9223372036854775808 ≤ c) (h2 : c < 9223372036854775808) : (binOp .add 3 (.int .i64 x) (.int .i64 y)).run Tryd.prog w = .ok (.int .i64 c) w := by
  have e : IntKind.i64.wrap (x + y) = c := by rw [h]; exact wrap_in c h1 h2
  simp [go_sem, e]
theorem subIw (x y c : Int) (h : x - y = c) (h1 : -9223372036854775808 ≤ c) (h2 : c < 9223372036854775808) : (binOp .sub 3 (.int .i64 x) (.int .i64 y)).run Tryd.prog w = .ok (.int .i64 c) w := by
  have e : IntKind.i64.wrap (x - y) = c := by rw [h]; exact wrap_in c h1 h2
  simp [go_sem, e]
theorem mulIw (x y c : Int) (h : x * y = c) (h1 : -9223372036854775808 ≤ c) (h2 : c < 9223372036854775808) : (binOp .mul 3 (.int .i64 x) (.int .i64 y)).run Tryd.prog w = .ok (.int .i64 c) w := by
  have e : IntKind.i64.wrap (x * y) = c := by rw [h]; exact wrap_in c h1 h2
  simp [go_sem, e]
theorem andIw (x y : Int) : (binOp .and 3 (.int .i64 x) (.int .i64 y)).run Tryd.prog w = .ok (.int .i64 (bits .and .i64 x y)) w := by simp [go_sem]
theorem eqlIw (s t : Int) : (binOp .eql 3 (.int .i64 s) (.int .i64 t)).run Tryd.prog w = .ok (.bool (s == t)) w := by simp [go_sem]
theorem neqIw (s t : Int) : (binOp .neq 3 (.int .i64 s) (.int .i64 t)).run Tryd.prog w = .ok (.bool (!(s == t))) w := by simp [go_sem, bne]
theorem eqlIb (s t : Int) (b : Bool) (h : (s == t) = b) : (binOp .eql 3 (.int .i64 s) (.int .i64 t)).run Tryd.prog w = .ok (.bool b) w := by rw [← h]; exact eqlIw w s t
theorem neqIb (s t : Int) (b : Bool) (h : (s == t) = !b) : (binOp .neq 3 (.int .i64 s) (.int .i64 t)).run Tryd.prog w = .ok (.bool b) w := by rw [neqIw, h, Bool.not_not]
theorem lssIw (s t : Int) : (binOp .lss 3 (.int .i64 s) (.int .i64 t)).run Tryd.prog w = .ok (.bool (decide (s < t))) w := by simp [go_sem]
theorem leqIw (s t : Int) : (binOp .leq 3 (.int .i64 s) (.int .i64 t)).run Tryd.prog w = .ok (.bool (decide (s ≤ t))) w := by simp [go_sem]
theorem gtrIw (s t : Int) : (binOp .gtr 3 (.int .i64 s) (.int .i64 t)).run Tryd.prog w = .ok (.bool (decide (t < s))) w := by simp [go_sem]
theorem geqIw (s t : Int) : (binOp .geq 3 (.int .i64 s) (.int .i64 t)).run Tryd.prog w = .ok (.bool (decide (t ≤ s))) w := by simp [go_sem]
theorem lssIb (s t : Int) (b : Bool) (h : decide (s < t) = b) : (binOp .lss 3 (.int .i64 s) (.int .i64 t)).run Tryd.prog w = .ok (.bool b) w := by rw [← h]; exact lssIw w s t
theorem leqIb (s t : Int) (b : Bool) (h : decide (s ≤ t) = b) : (binOp .leq 3 (.int .i64 s) (.int .i64 t)).run Tryd.prog w = .ok (.bool b) w := by rw [← h]; exact leqIw w s t
theorem gtrIb (s t : Int) (b : Bool) (h : decide (t < s) = b) : (binOp .gtr 3 (.int .i64 s) (.int .i64 t)).run Tryd.prog w = .ok (.bool b) w := by rw [← h]; exact gtrIw w s t
theorem geqIb (s t : Int) (b : Bool) (h : decide (t ≤ s) = b) : (binOp .geq 3 (.int .i64 s) (.int .i64 t)).run Tryd.prog w = .ok (.bool b) w := by rw [← h]; exact geqIw w s t
theorem neqBb (s t b : Bool) (h : (s == t) = !b) : (binOp .neq 4 (.bool s) (.bool t)).run Tryd.prog w = .ok (.bool b) w := by cases s <;> cases t <;> cases b <;> simp_all [go_sem]
theorem eqlBb (s t b : Bool) (h : (s == t) = b) : (binOp .eql 4 (.bool s) (.bool t)).run Tryd.prog w = .ok (.bool b) w := by cases s <;> cases t <;> cases b <;> simp_all [go_sem]
end
/-- Appending cells that are known, to a row of our own. -/
theorem opTo_app {P : Program} {o : Oper} {a : Act} {w : World} (s x : Operand) (t e : TypeId) (ho : o.op = .call { callee := .builtin .append, args := #[s, x], argTypes := #[t, t] }) (base : Nat) (i : TypeInfo) (z : Value) (size bytes : Nat) (ht : P.underlying t = some (.slice e)) (hi : P.info? e = some i) (hz : i.zero = some z)
    (hsize : i.size = size) (hby : i.bytes = bytes) (hzs : z.cells.size = size) (hpos : 0 < size) (v : Value) (n : Nat) (xs : List Value) (hs : a.eval s = v) (hown : w.ownsRow base e size v n xs) (ad : Addr) (m cap : Nat) (news : List Value) (hx : a.eval x = .slice (some ad) m cap) (hlen : news.length = m * size)
    (hnews : ∀ j u, news[j]? = some u → w.cell? (ad.add j) = some u) (h1 : ∀ u ∈ news, u.oneCell' = true) (hn : n + m ≤ maxLen) (hb : (n + m) * bytes ≤ 140737488355328) (hbase : base ≤ w.heap.size) :
    opTo P o a w fun v' w' => Grew w w' v v' ∧ w'.ownsRow base e size v' (n + m) (xs ++ news) := by
  obtain ⟨v', w', hr, h2, h3, h4⟩ := run_append_at (P := P) w base t o.type e i z size bytes ht hi hz hsize hby hzs hpos v n xs hown ad m cap news hlen hnews h1 hn hb hbase
  refine .inl ⟨v', w', ?_, (Grew.refl w v).app0 h3 h4, h2⟩
  unfold execOp
  simp only [ho, resolve, invoke, builtin, Sem.run_bind, Sem.run_pure, Result.andThen_ok, List.map_toArray, List.map_cons, List.map_nil, hs, hx, hr]
/-- Appending bytes. -/
theorem opTo_bytes {o : Oper} {a : Act} {w : World} (s x : Operand)
    (ho : o.op = .call { callee := .builtin .append, args := #[s, x], argTypes := #[31, 31] }) (base : Nat) (v : Value) (n : Nat) (xs l : List UInt8) (hs : a.eval s = v) (hown : w.ownsRow base 5 1 v n (xs.map B8)) (vx : Value) (hx : a.eval x = vx) (hl : Sl w vx l)
    (hb1 : n ≤ 100000000) (hb2 : l.length ≤ 100000000) (hbase : base ≤ w.heap.size) : opTo Tryd.prog o a w fun v' w' => Grew w w' v v' ∧ w'.ownsRow base 5 1 v' (n + l.length) ((xs ++ l).map B8) := by
  obtain ⟨i0, hi, hz0, hz1, hz2⟩ := info_parts infoU8
  obtain ⟨ao, cap, rfl, h1, h2, h3, h4⟩ := id hl
  cases ao with
  | none =>
    have hc := h3 rfl
    have hl0 : l = [] := List.eq_nil_of_length_eq_zero (by omega)
    subst hl0 hc
    have hr := run_append_owned_none (P := Tryd.prog) (w := w) base 31 o.type 5 i0 1 Tryd.underlying31 hi v n (xs.map B8) hown
    refine .inl ⟨v, w, ?_, Grew.refl _ _, by simpa using hown⟩
    unfold execOp
    simp only [ho, resolve, invoke, builtin, Sem.run_bind, Sem.run_pure, Result.andThen_ok, List.map_toArray, List.map_cons, List.map_nil, hs, hx, List.length_nil, hr]
  | some ad =>
    obtain ⟨v', w', hr, h2', h3', h4'⟩ := run_append_at (P := Tryd.prog) w base 31 o.type 5 i0 (.int .u8 0) 1 1 Tryd.underlying31 hi hz0 hz1 hz2 rfl (by decide) v n (xs.map B8) hown ad l.length cap (l.map B8) (by simp) hl.news (B8_one l) (by unfold maxLen; omega) (by omega) hbase
    refine .inl ⟨v', w', ?_, (Grew.refl w v).app0 h3' h4', by rw [List.map_append]; exact h2'⟩
    unfold execOp
    simp only [ho, resolve, invoke, builtin, Sem.run_bind, Sem.run_pure, Result.andThen_ok, List.map_toArray, List.map_cons, List.map_nil, hs, hx, hr]
theorem grew_low {w w' : World} {v v' : Value} {base : Nat} (h : Grew w w' v v') (hb : base ≤ w.heap.size) (ho : ∀ k, v.ownBlock = some k → base ≤ k) : Below base w w' := grew_below h hb ho
end Go.Proofs.YtpgnlhfokffioaaDoor
