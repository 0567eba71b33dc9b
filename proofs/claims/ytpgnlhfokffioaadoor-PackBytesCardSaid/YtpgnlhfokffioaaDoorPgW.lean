/-
  Packets: bytes that grow: letters put behind; the model of a packet's bytes.
  Packets: their bytes, by the code.
  Packets: their flags, bodies, bytes, by the code.
-/
import Derived.Test.YtpgnlhfokffioaaDoorPgV
import Derived.Test.YtpgnlhfokffioaaDoorPackA
import Derived.Test.YtpgnlhfokffioaaDoorOz
import Derived.Lib.AppendStr
namespace Go.Proofs.YtpgnlhfokffioaaDoor
open Go.RowKit Go.Lib
/-- Bytes of our own. -/
abbrev OB (W : World) (B : Nat) (a : Option Addr) (c : Nat) (l : List UInt8) : Prop := W.ownsRow B 5 1 (.slice a l.length c) l.length (l.map B8)
theorem ob_nil (W : World) (B : Nat) : OB W B none 0 [] := World.ownsRow_nil _ _ _ _
theorem app_str_blk {P : Program} {w : World} {base t u ty e : Nat} {i : TypeInfo} (ht : P.underlying t = some (.slice e)) (hu : P.underlying u = some .string) (hi : P.info? e = some i) (hz : i.zero = some (.int .u8 0)) (hsize : i.size = 1) (hby : i.bytes = 1) {v v' : Value} {n : Nat} {xs : List Value} {w' : World}
    (hown : w.ownsRow base e 1 v n xs) (s : ByteArray) (hn : n ≤ 10000000) (hs : s.size ≤ 10000000) (hr : (Builtin.append_ #[t, u] ty #[v, .string s]).run P w = .ok v' w') : v'.ownBlock = v.ownBlock ∨ ∃ k, v'.ownBlock = some k ∧ w.heap.size ≤ k := by
  have hxl : xs.length = n := by simpa using hown.1
  rcases hown.2 with ⟨rfl, rfl⟩ | ⟨g, cap, cur, rfl, -, hg, hnc, -, hcs, -⟩
  · obtain ⟨v2, w2, hr2, ho2, -, -⟩ := run_append_own_string (P := P) (w := w) w.heap.size t u ty e i ht hu hi hz hsize hby (.slice none 0 0) 0 [] (World.ownsRow_nil _ _ _ _) s (by unfold maxLen; omega) (by omega) (Nat.le_refl _)
    rw [hr2] at hr
    injection hr with e1 e2
    subst e1
    cases hb : v2.ownBlock with
    | none => exact .inl rfl
    | some k => exact .inr ⟨k, rfl, (ho2.lt k hb).1⟩
  · by_cases hroom : n + s.size ≤ cap
    · have hcs' : cur.size = cap := by simpa using hcs
      have h2 := run_append_room_string (P := P) (w := w) t u ty e i ht hu hi hsize g n cap cur hg s hroom (by omega)
      rw [h2] at hr
      injection hr with e1 e2
      subst e1
      exact .inl rfl
    · have h2 := run_append_grow_string (P := P) (w := w) t u ty e i (.int .u8 0) ht hu hi hz ⟨g, 0, none⟩ n cap xs (by rw [hsize]; simpa using hxl) (fun j u hj => hown.cells (g := g) rfl j u hj) s (by omega) (by omega) (by rw [hby]; exact growslice_fits (by omega) (by omega))
      rw [h2] at hr
      injection hr with e1 e2
      subst e1
      exact .inr ⟨_, rfl, Nat.le_refl _⟩
theorem opTo_up {P : Program} {o : Oper} {a : Act} {w : World} {K K' : Value → World → Prop} (h : opTo P o a w K) (hk : ∀ v w', K v w' → K' v w') : opTo P o a w K' := by
  unfold opTo at h ⊢
  rcases h with ⟨v, w', h1, h2⟩ | ⟨f, args, h1, h2⟩ | ⟨w', h1, h2⟩
  · exact .inl ⟨v, w', h1, hk _ _ h2⟩
  · exact .inr (.inl ⟨f, args, h1, h2.mono fun e w' h => by obtain ⟨v, he, hv⟩ := h; exact ⟨v, he, hk _ _ hv⟩⟩)
  · exact .inr (.inr ⟨w', h1, hk _ _ h2⟩)
/-- A string put behind bytes of our own. -/
theorem opTo_str {o : Oper} {a : Act} {w : World} (s x : Operand) (ho : o.op = .call { callee := .builtin .append, args := #[s, x], argTypes := #[31, 9] }) {B : Nat} {ad : Option Addr} {c : Nat} {l : List UInt8} {t : ByteArray} (hs : a.eval s = .slice ad l.length c) (hown : OB w B ad c l) (hx : a.eval x = .string t) (h1 : l.length ≤ 1000000) (h2 : t.size ≤ 1000000) (hB : B ≤ w.heap.size) :
    opTo Tryd.prog o a w fun v' w' => ∃ l' a' c', v' = .slice a' l'.length c' ∧ l' = l ++ t.data.toList ∧ Grew w w' (.slice ad l.length c) v' ∧ OB w' B a' c' l' := by
  obtain ⟨i0, hi, hz0, hz1, hz2⟩ := info_parts infoU8
  obtain ⟨v', w', hr, h3, h4, -⟩ := run_append_own_string (P := Tryd.prog) (w := w) B 31 9 o.type 5 i0 Tryd.underlying31 Tryd.underlying9 hi hz0 hz1 hz2 _ _ _ hown t (by unfold maxLen; omega) (by omega) hB
  have hblk := app_str_blk (P := Tryd.prog) Tryd.underlying31 Tryd.underlying9 hi hz0 hz1 hz2 hown t (by omega) (by omega) hr
  have e : l.map B8 ++ strCells t = (l ++ t.data.toList).map B8 := by rw [List.map_append]; rfl
  rw [e] at h3
  have hl : (l ++ t.data.toList).length = l.length + t.size := by rw [List.length_append, Array.length_toList]; rfl
  rw [← hl] at h3
  obtain ⟨a', c', rfl⟩ := own_slice h3
  refine .inl ⟨_, w', ?_, _, a', c', rfl, rfl, ⟨h4, hblk⟩, h3⟩
  unfold execOp
  simp only [ho, resolve, invoke, builtin, Sem.run_bind, Sem.run_pure, Result.andThen_ok, List.map_toArray, List.map_cons, List.map_nil, hs, hx, hr]
/-- Bytes put behind bytes of our own. -/
theorem opTo_byt {o : Oper} {a : Act} {w : World} (s x : Operand) (ho : o.op = .call { callee := .builtin .append, args := #[s, x], argTypes := #[31, 31] }) {B : Nat} {ad : Option Addr} {c : Nat} {l k : List UInt8} {vx : Value} (hs : a.eval s = .slice ad l.length c) (hown : OB w B ad c l) (hx : a.eval x = vx) (hk : Sl w vx k) (h1 : l.length ≤ 1000000) (h2 : k.length ≤ 1000000) (hB : B ≤ w.heap.size) :
    opTo Tryd.prog o a w fun v' w' => ∃ l' a' c', v' = .slice a' l'.length c' ∧ l' = l ++ k ∧ Grew w w' (.slice ad l.length c) v' ∧ OB w' B a' c' l' := by
  have h := opTo_bytes s x ho B (.slice ad l.length c) l.length l k hs hown vx hx hk (by omega) (by omega) hB
  refine opTo_up h fun v' w' hv => ?_
  obtain ⟨h3, h4⟩ := hv
  have hl : (l ++ k).length = l.length + k.length := List.length_append
  rw [← hl] at h4
  obtain ⟨a', c', rfl⟩ := own_slice h4
  exact ⟨_, a', c', rfl, rfl, h3, h4⟩
theorem grew_off {W W' : World} {v v' : Value} {q : Nat} (hg : Grew W W' v v') (h : ∀ k, v.ownBlock = some k → k ≠ q) (hq : q < W.heap.size) : ∀ k, v'.ownBlock = some k → k ≠ q := by
  intro k hk
  rcases hg.2 with h1 | ⟨k', h1, hle⟩
  · exact h k (h1.symm.trans hk)
  · rw [h1] at hk; injection hk; omega
theorem ob_chg {B q c : Nat} {a : Option Addr} {l : List UInt8} {W W' : World} (h : OB W B a c l) (s : W.grownBy W' (some q)) (hn : ∀ k, (Value.slice a l.length c).ownBlock = some k → k ≠ q) : OB W' B a c l := own_stay h s (fun k hk e => hn k hk (Option.some.inj e))
/-- What lies elsewhere stays. -/
theorem row_grew {q c : Nat} {a : Option Addr} {l : List UInt8} {W W' : World} {v' : Value} {vs : List Value} (r : RowAt W q vs) (hg : Grew W W' (.slice a l.length c) v') (hn : ∀ k, (Value.slice a l.length c).ownBlock = some k → k ≠ q) : RowAt W' q vs := rowAt_keep r hg.1 (fun e => hn q e.symm rfl)
theorem ob_off {B q c : Nat} {a : Option Addr} {l : List UInt8} {W : World} (h : OB W B a c l) (hq : q < B) : ∀ k, (Value.slice a l.length c).ownBlock = some k → k ≠ q := fun k hk e => by have := (blk_lt h hk).1; omega
theorem ob_new {B q c : Nat} {a : Option Addr} {l : List UInt8} {W : World} (h : OB W B a c l) (hq : W.heap.size ≤ q) : ∀ k, (Value.slice a l.length c).ownBlock = some k → k ≠ q := fun k hk e => by have := (blk_lt h hk).2; omega
theorem ob_low {B b c : Nat} {a : Option Addr} {l : List UInt8} {W0 W W' : World} {v' : Value} (h : Below b W0 W) (ho : OB W B a c l) (hg : Grew W W' (.slice a l.length c) v') (hb : b ≤ B) (hB : b ≤ W.heap.size) : Below b W0 W' := below_grown h hg.1 (fun _ hk => Nat.le_trans hb (blk_lt ho hk).1) hB
theorem slB (W : World) (q : Nat) (x : UInt8) (r : RowAt W q [B8 x]) : Sl W (.slice (some ⟨q, 0, none⟩) 1 1) [x] :=
  ⟨some ⟨q, 0, none⟩, 1, rfl, Nat.le_refl _, by unfold maxLen; decide, fun e => (nomatch e), fun _ => ⟨q, 0, rfl, r.2.2, fun j y hj => by
    match j, hj with
    | 0, hj => simp at hj; subst hj; exact r.1 0 _ rfl⟩⟩
theorem slBB (W : World) (q : Nat) (x y : UInt8) (r : RowAt W q [B8 x, B8 y]) : Sl W (.slice (some ⟨q, 0, none⟩) 2 2) [x, y] :=
  ⟨some ⟨q, 0, none⟩, 2, rfl, Nat.le_refl _, by unfold maxLen; decide, fun e => (nomatch e), fun _ => ⟨q, 0, rfl, r.2.2, fun j z hj => by
    match j, hj with
    | 0, hj => simp at hj; subst hj; exact r.1 0 _ rfl
    | 1, hj => simp at hj; subst hj; exact r.1 1 _ rfl⟩⟩
/-! calls that put something behind -/
section
variable {B : Nat} {ad : Option Addr} {c : Nat} {l : List UInt8} {w : World}
/-- What a call leaves that puts k behind l. -/
abbrev Put (B : Nat) (w : World) (ad : Option Addr) (c : Nat) (l k : List UInt8) (e : Ending) (w' : World) : Prop := ∃ l' a' c', e = .returned (.slice a' l'.length c') ∧ l' = l ++ k ∧ Grew w w' (.slice ad l.length c) (.slice a' l'.length c') ∧ OB w' B a' c' l'
theorem numPut (v : Int) (n : Nat) (hown : OB w B ad c l) (hn : n ≤ 8) (hl : l.length ≤ 1000000) (hB : B ≤ w.heap.size) : Calls Tryd.prog 77 #[.slice ad l.length c, .int .i64 (n : Int), .int .i64 v] w (Put B w ad c l (bigv v n)) := by
  refine (numAppend_any B l.length (.slice ad l.length c) l n v w hown hn hl hB).mono ?_
  rintro e w' ⟨v', rfl, h1, h2⟩
  have hl2 : (l ++ bigv v n).length = l.length + n := by rw [List.length_append, bigv_length]
  rw [← hl2] at h2
  obtain ⟨a', c', rfl⟩ := own_slice h2
  exact ⟨_, a', c', rfl, rfl, h1, h2⟩
/-- A text, its length ahead. -/
def encS (s : ByteArray) : List UInt8 := bigv s.size 2 ++ s.data.toList
theorem encS_len (s : ByteArray) : (encS s).length = 2 + s.size := by unfold encS; rw [List.length_append, bigv_length, Array.length_toList]; rfl
end
/-- A number's lowest byte. -/
def b8I (x : Int) : UInt8 := UInt8.ofNat (x % 256).toNat
theorem b8I_nat (x : Int) : ((b8I x).toNat : Int) = x % 256 := by unfold b8I; simp only [UInt8.toNat_ofNat']; omega
theorem cvI8 (x : Int) (w : World) : (convert 3 5 (.int .i64 x)).run Tryd.prog w = .ok (B8 (b8I x)) w := by
  show _ = Result.ok (Value.int .u8 ((b8I x).toNat : Int)) w
  rw [b8I_nat]
  simp [go_sem, convert, IntKind.wrap_u8]
theorem orI (x y : Int) (w : World) : (binOp .or 3 (.int .i64 x) (.int .i64 y)).run Tryd.prog w = .ok (.int .i64 (bits .or .i64 x y)) w := by simp [go_sem]
theorem shl1 (x : Int) (h0 : 0 ≤ x) (h1 : x ≤ 1000) (w : World) : (binOp .shl 3 (.int .i64 x) (.int .u64 1)).run Tryd.prog w = .ok (.int .i64 (x * 2)) w := by
  have := wrap_i64 (x * 2) (by omega) (by omega)
  simp [go_sem, this]
theorem shl3 (x : Int) (h0 : 0 ≤ x) (h1 : x ≤ 1000) (w : World) : (binOp .shl 3 (.int .i64 x) (.int .u64 3)).run Tryd.prog w = .ok (.int .i64 (x * 8)) w := by
  have := wrap_i64 (x * 8) (by omega) (by omega)
  simp [go_sem, this]
theorem shl4 (x : Int) (h0 : 0 ≤ x) (h1 : x ≤ 1000) (w : World) : (binOp .shl 3 (.int .i64 x) (.int .u64 4)).run Tryd.prog w = .ok (.int .i64 (x * 16)) w := by
  have := wrap_i64 (x * 16) (by omega) (by omega)
  simp [go_sem, this]
/-- A length in groups of seven bits. -/
def lenG (n : Nat) : List UInt8 := lenB 4 n
theorem lenB_up : ∀ (k n : Nat), n < 128 ^ (k + 1) → lenB (k + 1) n = lenB k n
  | 0, n, h => by unfold lenB; rw [if_pos (by simpa using h)]
  | k + 1, n, h => by
    unfold lenB
    split
    · rfl
    · rw [lenB_up k (n / 128) (by rw [Nat.div_lt_iff_lt_mul (by decide)]; rwa [Nat.pow_succ] at h)]
theorem lenG_small {n : Nat} (h : n < 128) : lenG n = [UInt8.ofNat n] := by unfold lenG lenB; rw [if_pos h]
theorem lenG_step {n : Nat} (h : 128 ≤ n) (h2 : n < 268435456) : lenG n = UInt8.ofNat (n % 128 + 128) :: lenG (n / 128) := by
  have e : lenG n = if n < 128 then [UInt8.ofNat n] else UInt8.ofNat (n % 128 + 128) :: lenB 3 (n / 128) := rfl
  rw [e, if_neg (by omega)]
  unfold lenG
  rw [lenB_up 3 (n / 128) (by omega)]
theorem or128 (n : Nat) (h : n < 128) : bits .or .i64 ((n : Nat) : Int) 128 = ((n + 128 : Nat) : Int) := by
  have h0 : ((List.range 128).all fun n => bits .or .i64 ((n : Nat) : Int) 128 == ((n + 128 : Nat) : Int)) = true := by decide +kernel
  exact beq_iff_eq.1 (List.all_eq_true.1 h0 n (List.mem_range.2 h))
theorem b8I_ofNat (n : Nat) : b8I ((n : Nat) : Int) = UInt8.ofNat n := by
  unfold b8I
  apply UInt8.toNat_inj.1
  simp only [UInt8.toNat_ofNat']
  omega
theorem b8c4 : (Value.int .u8 4) = B8 4 := rfl
theorem bs8_1 {ρ : Operand → Value} {d : Option Tmp} {ty : TypeId} {pos : String} {af : Array Edge} {g : Option (Nat × Bool)} {x0 : Operand} {u0 : UInt8} (w : World) (h0 : ρ x0 = B8 u0) : (execOp ρ ⟨d, .buildSlice 31 1 #[(0, x0)], ty, pos, af, g⟩).run Tryd.prog w = .ok (.value (.slice (some ⟨w.heap.size, 0, none⟩) 1 1)) (w.alloc (.cells ([B8 u0] : List Value).toArray 5)) := by
  simp [execOp, h0, go_sem, Instr.buildSlice]
theorem bs8_2 {ρ : Operand → Value} {d : Option Tmp} {ty : TypeId} {pos : String} {af : Array Edge} {g : Option (Nat × Bool)} {x0 x1 : Operand} {u0 u1 : UInt8} (w : World) (h0 : ρ x0 = B8 u0) (h1 : ρ x1 = B8 u1) : (execOp ρ ⟨d, .buildSlice 31 2 #[(0, x0), (1, x1)], ty, pos, af, g⟩).run Tryd.prog w = .ok (.value (.slice (some ⟨w.heap.size, 0, none⟩) 2 2)) (w.alloc (.cells ([B8 u0, B8 u1] : List Value).toArray 5)) := by
  simp [execOp, h0, h1, go_sem, Instr.buildSlice]
theorem quoN (n : Nat) (w : World) (h : n ≤ 1000000000) : (binOp .quo 3 (.int .i64 (n : Int)) (.int .i64 128)).run Tryd.prog w = .ok (.int .i64 ((n / 128 : Nat) : Int)) w := by
  have := wrap_i64 ((n / 128 : Nat) : Int) (by omega) (by omega)
  simp [go_sem, Int.tdiv_eq_ediv_of_nonneg (show (0 : Int) ≤ n by omega)]
  push_cast at this; exact this
theorem remN (n : Nat) (w : World) (h : n ≤ 1000000000) : (binOp .rem 3 (.int .i64 (n : Int)) (.int .i64 128)).run Tryd.prog w = .ok (.int .i64 ((n % 128 : Nat) : Int)) w := by
  have := wrap_i64 ((n % 128 : Nat) : Int) (by omega) (by omega)
  simp [go_sem, Int.tmod_eq_emod_of_nonneg (show (0 : Int) ≤ n by omega)]
/-- Nothing of a packet that may be is long. -/
structure Small (m : Mq) : Prop where
  k : 1 ≤ m.k ∧ m.k ≤ 14
  cl : m.cl.size ≤ 1000
  wT : m.wT.size ≤ 1000
  wP : m.wP.size ≤ 1000
  us : m.us.size ≤ 1000
  pa : m.pa.size ≤ 1000
  top : m.top.size ≤ 1000
  pay : m.pay.size ≤ 1000
  wQ : 0 ≤ m.wQ ∧ m.wQ ≤ 2
  q : 0 ≤ m.q ∧ m.q ≤ 2
  cs : m.cs.length ≤ 8
  ws : m.ws.length ≤ 8
  fs : m.fs.length ≤ 8
  wsf : ∀ s ∈ m.ws, s.f.size ≤ 1000
  fsf : ∀ s ∈ m.fs, s.size ≤ 1000
def cfG (m : Mq) : Int := bits .or .i64 (bits .or .i64 (bits .or .i64 (bits .or .i64 (bits .or .i64 (flg m.clean 2) (flg m.wI 4)) (m.wQ * 8)) (flg m.wR 32)) (flg m.hp 64)) (flg m.hu 128)
def flG (m : Mq) : Int := if m.k == 3 then bits .or .i64 (bits .or .i64 (flg m.dup 8) (m.q * 2)) (flg m.re 1) else if (m.k == 6 || m.k == 8 || m.k == 10) then 2 else 0
def mqtt : List UInt8 := [0, 4, 77, 81, 84, 84]
def cbG (m : Mq) : List UInt8 := mqtt ++ [4, b8I (cfG m)] ++ bigv m.keep 2 ++ encS m.cl ++ (if m.wI then encS m.wT ++ encS m.wP else []) ++ (if m.hu then encS m.us else []) ++ (if m.hp then encS m.pa else [])
def encW (x : EWish) : List UInt8 := encS x.f ++ [b8I x.q]
def bdG (m : Mq) : List UInt8 :=
  if m.k == 1 then cbG m else if m.k == 2 then [b8I (flg m.pres 1), b8I m.code]
  else if m.k == 3 then encS m.top ++ (if decide (0 < m.q) then bigv m.id 2 else []) ++ m.pay.data.toList
  else if (m.k == 12 || m.k == 13 || m.k == 14) then []
  else bigv m.id 2 ++ m.ws.flatMap encW ++ m.cs.map b8I ++ m.fs.flatMap encS
/-- A packet's bytes. -/
def enG (m : Mq) : List UInt8 := b8I (bits .or .i64 (m.k * 16) (flG m)) :: (lenG (bdG m).length ++ bdG m)
section
variable {B : Nat} {ad : Option Addr} {c : Nat} {l : List UInt8} {w : World}
theorem grew_below2 {W W' : World} {v v' : Value} (h : Grew w W v v') (hb : Below W.heap.size W W') : Grew w W' v v' := h.trans ⟨⟨hb.os, hb.tape, hb.output, hb.size, fun k hk _ => hb.block k hk⟩, .inl rfl⟩
theorem strPut (s : ByteArray) (hown : OB w B ad c l) (hs : s.size ≤ 1000) (hl : l.length ≤ 900000) (hB : B ≤ w.heap.size) : Calls Tryd.prog 76 #[.slice ad l.length c, .string s] w (Put B w ad c l (encS s)) := by
  have hb0 := Below.refl B w
  have hBs := hB
  have hBw := hB
  have hwB : B ≤ B := Nat.le_refl _
  refine fw_en 11 [(0, .slice ad l.length c), (1, .string s)] Tryd.func76 rfl Tryd.ntmps76 rfl ⟨rfl, rfl, trivial⟩ ?_
  refine fw_sq ?_
  refine fw_rg rfl ?_
  refine fw_pu rfl ?_
  refine fw_dt ?_
  refine fw_sq ?_
  refine fw_rg rfl ?_
  iterate 3 refine fw_pu rfl ?_
  refine fw_ca Tryd.func77 rfl rfl rfl (numPut (l := l) (ad := ad) (c := c) (s.size : Int) 2 hown (by decide) (by omega) hBs) ?_
  rintro _ V2 ⟨l1, a1, c1, rfl, hl1, hg1, ho1⟩
  refine ⟨_, rfl, ?_⟩
  have b3 := ob_low hb0 hown hg1 hwB (Nat.le_trans hwB hBs)
  have hBs := Nat.le_trans hBs hg1.1.size
  refine fw_pu rfl ?_
  refine fw_to 10 rfl rfl rfl (fun a h => opTo_str (l := l1) (ad := a1) (c := c1) _ _ rfl (h.ev rfl) ho1 (h.ev rfl) (by (try rw [hl1, List.length_append, bigv_length]); omega) (by omega) hBs) ?_
  rintro _ V5 ⟨l4, a4, c4, rfl, hl4, hg4, ho4⟩
  have b6 := ob_low b3 ho1 hg4 hwB (Nat.le_trans hwB hBs)
  have hBs := Nat.le_trans hBs hg4.1.size
  refine fw_pu rfl ?_
  refine fw_dt ?_
  refine fw_rt ?_
  refine ⟨fun a h => ?_⟩
  exact ow_ret1 rfl h.df (h.g 4 rfl) ⟨_, _, _, rfl, by rw [hl4, hl1]; unfold encS; rw [List.append_assoc], (hg1.trans hg4), ho4⟩
theorem lenPut (n : Nat) (hn : n < 100000) (hown : OB w B ad c l) (hl : l.length ≤ 900000) (hB : B ≤ w.heap.size) : Calls Tryd.prog 52 #[.slice ad l.length c, .int .i64 (n : Int)] w (Put B w ad c l (lenG n)) := by
  have hb0 := Below.refl B w
  have hBs := hB
  have hBw := hB
  have hwB : B ≤ B := Nat.le_refl _
  refine fw_en 21 [(0, .slice ad l.length c), (1, .int .i64 ((n : Nat) : Int))] Tryd.func52 rfl Tryd.ntmps52 rfl ⟨rfl, rfl, trivial⟩ ?_
  refine fw_sq ?_
  refine fw_rg rfl ?_
  refine fw_pu rfl ?_
  refine fw_dt ?_
  refine fw_sq ?_
  refine fw_bk ?_
  refine fw_lp (fun N K W => ∃ (j : Nat) (lj : List UInt8) (aj : Option Addr) (cj : Nat), N = j + 1 ∧ j ≤ n ∧ lj ++ lenG j = l ++ lenG n ∧ lj.length + j ≤ l.length + n ∧ B ≤ W.heap.size ∧ K = [(0, .slice aj lj.length cj), (1, .int .i64 ((j : Nat) : Int))] ∧ Below B w W ∧ OB W B aj cj lj ∧ Grew w W (.slice ad l.length c) (.slice aj lj.length cj)) _ _ ⟨n, l, ad, c, rfl, Nat.le_refl _, rfl, (by omega), hBs, rfl, hb0, hown, (Grew.refl w _)⟩ ⟨(by first | rfl | (simp only [Look, cond, Nat.beq]; first | rfl | (congr 2; first | rfl | omega | (push_cast; omega)) | (simp; try omega))), (by first | rfl | (simp only [Look, cond, Nat.beq]; first | rfl | (congr 2; first | rfl | omega | (push_cast; omega)) | (simp; try omega))), trivial⟩ ?_
  rintro N _ W1 ⟨j, lj, aj, cj, rfl, hjn, hlj, hln, hBs, rfl, bW1, gW1_0, gW1_1⟩
  intro K3 hK3
  refine fw_sq ?_
  refine fw_sq ?_
  refine fw_rg rfl ?_
  iterate 2 refine fw_pu rfl ?_
  refine fw_dt ?_
  rcases Bool.eq_false_or_eq_true ((decide (128 ≤ ((j : Nat) : Int)))) with hb_4 | hb_4
  · skip
    refine fw_cT rfl hb_4 ?_
    refine fw_sk ?_
    refine fw_th ?_
    refine fw_bk ?_
    refine fw_sq ?_
    have hj := of_decide_eq_true hb_4
    have hj1 : 128 ≤ j := by omega
    have hst := lenG_step hj1 (by omega)
    refine fw_rg rfl ?_
    iterate 2 refine fw_pu rfl ?_
    refine fw_ex 9 (.int .i64 (((j % 128) : Nat) : Int)) rfl rfl rfl (fun a h => (run_binOp (h.ev rfl) (h.ev rfl) (by simp [go_sem]) (remN _ _ (by omega)))) ?_
    refine fw_ex 10 (.int .i64 (((j % 128 + 128) : Nat) : Int)) rfl rfl rfl (fun a h => (run_binOp (h.ev rfl) (h.ev rfl) (by simp [go_sem]) (by rw [orI, or128 _ (by omega)]))) ?_
    refine fw_ex 11 (B8 (b8I (((j % 128 + 128) : Nat) : Int))) rfl rfl rfl (fun a h => (run_convOp (h.ev rfl) (cvI8 _ _))) ?_
    refine fw_al (t := 5) (u := fun q => .slice (some ⟨q, 0, none⟩) 1 1) 12 [B8 (b8I (((j % 128 + 128) : Nat) : Int))] rfl rfl rfl (fun a h => (bs8_1 _ (h.ev rfl))) ?_
    intro q5 W6 g9 s7 r8
    have := Nat.le_trans (Nat.le_trans hBw bW1.size) g9
    have hapq5 := ob_new gW1_0 g9
    have b10 := bW1.trans (s7.mono (Nat.le_trans hBw bW1.size))
    have f11 := (below_own gW1_0 s7)
    have f12 := (grew_below2 gW1_1 s7)
    have hBs := Nat.le_trans hBs s7.size
    refine fw_to 13 rfl rfl rfl (fun a h => opTo_byt (l := lj) (ad := aj) (c := cj) _ _ rfl (h.ev rfl) f11 (h.ev rfl) (slB _ _ (b8I (((j % 128 + 128) : Nat) : Int)) r8) (by omega) (by simp) hBs) ?_
    rintro _ V14 ⟨l13, a13, c13, rfl, hl13, hg13, ho13⟩
    have r15 := row_grew r8 hg13 hapq5
    replace hapq5 := grew_off hg13 hapq5 r8.2.2
    have b16 := ob_low b10 f11 hg13 hwB (Nat.le_trans hwB hBs)
    have hBs := Nat.le_trans hBs hg13.1.size
    refine fw_pu rfl ?_
    refine fw_dt ?_
    refine fw_rg rfl ?_
    refine fw_pu rfl ?_
    refine fw_ex 15 (.int .i64 (((j / 128) : Nat) : Int)) rfl rfl rfl (fun a h => (run_binOp (h.ev rfl) (h.ev rfl) (by simp [go_sem]) (quoN _ _ (by omega)))) ?_
    refine fw_pu rfl ?_
    refine fw_dn ?_
    refine fw_bn ?_
    exact fw_th (fw_gf (hK3 _ _ _ (by omega) ⟨(j / 128), l13, a13, c13, rfl, (by omega), (by rw [← hlj, hl13, hst, b8I_ofNat, List.append_assoc]; rfl), (by rw [hl13, List.length_append]; simp only [List.length_cons, List.length_nil]; omega), hBs, rfl, b16, ho13, (Grew.trans f12 hg13)⟩) ⟨(by first | rfl | (simp only [Look, cond, Nat.beq]; first | rfl | (congr 2; first | rfl | omega | (push_cast; omega)) | (simp; try omega))), (by first | rfl | (simp only [Look, cond, Nat.beq]; first | rfl | (congr 2; first | rfl | omega | (push_cast; omega)) | (simp; try omega))), trivial⟩)
  refine fw_cF rfl hb_4 ?_
  refine fw_xt ?_
  refine fw_te ?_
  refine fw_te ?_
  refine fw_be ?_
  refine fw_th ?_
  refine fw_sq ?_
  have hj := of_decide_eq_false hb_4
  have hst := lenG_small (n := j) (by omega)
  refine fw_rg rfl ?_
  iterate 2 refine fw_pu rfl ?_
  refine fw_ex 18 (B8 (b8I ((j : Nat) : Int))) rfl rfl rfl (fun a h => (run_convOp (h.ev rfl) (cvI8 _ _))) ?_
  refine fw_al (t := 5) (u := fun q => .slice (some ⟨q, 0, none⟩) 1 1) 19 [B8 (b8I ((j : Nat) : Int))] rfl rfl rfl (fun a h => (bs8_1 _ (h.ev rfl))) ?_
  intro q17 W18 g21 s19 r20
  have := Nat.le_trans (Nat.le_trans hBw bW1.size) g21
  have hapq17 := ob_new gW1_0 g21
  have b22 := bW1.trans (s19.mono (Nat.le_trans hBw bW1.size))
  have f23 := (below_own gW1_0 s19)
  have f24 := (grew_below2 gW1_1 s19)
  have hBs := Nat.le_trans hBs s19.size
  refine fw_to 20 rfl rfl rfl (fun a h => opTo_byt (l := lj) (ad := aj) (c := cj) _ _ rfl (h.ev rfl) f23 (h.ev rfl) (slB _ _ (b8I ((j : Nat) : Int)) r20) (by omega) (by simp) hBs) ?_
  rintro _ V26 ⟨l25, a25, c25, rfl, hl25, hg25, ho25⟩
  have r27 := row_grew r20 hg25 hapq17
  replace hapq17 := grew_off hg25 hapq17 r20.2.2
  have b28 := ob_low b22 f23 hg25 hwB (Nat.le_trans hwB hBs)
  have hBs := Nat.le_trans hBs hg25.1.size
  refine fw_pu rfl ?_
  refine fw_dt ?_
  refine fw_rt ?_
  refine ⟨fun a h => ?_⟩
  exact ow_ret1 rfl h.df (h.g 4 rfl) ⟨_, _, _, rfl, by rw [hl25, ← hlj, hst, b8I_ofNat], (Grew.trans f24 hg25), ho25⟩
end
theorem str_len (t : ByteArray) : t.data.toList.length = t.size := Array.length_toList
theorem one_len (x : UInt8) : [x].length = 1 := rfl
theorem two_len (x y : UInt8) : [x, y].length = 2 := rfl
theorem nil_len : ([] : List UInt8).length = 0 := rfl
theorem ob_apart {B B1 c c1 : Nat} {a a1 : Option Addr} {l l1 : List UInt8} {W W' : World} {v' : Value} (h : OB W B1 a1 c1 l1) (hg : Grew W W' (.slice a l.length c) v') (ho : OB W B a c l) (hn : ∀ k, (Value.slice a1 l1.length c1).ownBlock = some k → k < B) : OB W' B1 a1 c1 l1 :=
  own_stay h hg.1 (fun k hk e => by have h1 := hn k hk; have h2 := (blk_lt ho e.symm).1; omega)
theorem opTo_bs1 {o : Oper} {a : Act} {w : World} {x0 : Operand} {u : UInt8} (ho : o.op = .buildSlice 31 1 #[(0, x0)]) (h0 : a.eval x0 = B8 u) : opTo Tryd.prog o a w fun v' w' => ∃ l' a' c', v' = .slice a' l'.length c' ∧ l' = [u] ∧ Below w.heap.size w w' ∧ OB w' w.heap.size a' c' l' := by
  refine .inl ⟨_, w.alloc (.cells ([B8 u] : List Value).toArray 5), ?_, [u], _, _, rfl, rfl, (Below.refl _ w).alloc (Nat.le_refl _) _, ⟨rfl, .inr ⟨w.heap.size, 1, #[B8 u], rfl, Nat.le_refl _, heap_alloc_new w _, Nat.le_refl _, by unfold maxLen; omega, rfl, rfl⟩⟩⟩
  obtain ⟨dst, op, ty, pos, af, g⟩ := o
  dsimp only at ho
  subst ho
  exact bs8_1 w h0
set_option maxRecDepth 100000 in
set_option maxHeartbeats 4000000 in
theorem connectFlagsG (m : Mq) (ac aw af : Option Addr) (nc nw nf cc cw cf : Nat) (w : World) (hS : Small m) :
    Calls Tryd.prog 94 #[.agg (Mq.row m (.slice ac nc cc) (.slice aw nw cw) (.slice af nf cf)).toArray] w fun e w' => e = .returned (.int .i64 (cfG m)) ∧ Below w.heap.size w w' := by
  have hb0 := Below.refl w.heap.size w
  have hS0 := hS.cl
  have hS1 := hS.wT
  have hS2 := hS.wP
  have hS3 := hS.us
  have hS4 := hS.pa
  have hS5 := hS.top
  have hS6 := hS.pay
  have hS7 := hS.wQ
  have hS8 := hS.q
  have hS9 := hS.k
  have hS10 := hS.cs
  have hS11 := hS.ws
  have hS12 := hS.fs
  refine fw_en 29 [(0, .agg (Mq.row m (.slice ac nc cc) (.slice aw nw cw) (.slice af nf cf)).toArray)] Tryd.func94 rfl Tryd.ntmps94 rfl ⟨rfl, trivial⟩ ?_
  refine fw_sq ?_
  refine fw_rg rfl ?_
  refine fw_bx rfl (cs := [.int .i64 m.k, .string m.cl, .bool m.clean, .int .i64 m.keep, .bool m.wI, .string m.wT, .string m.wP, .int .i64 m.wQ, .bool m.wR, .string m.us, .bool m.hu, .string m.pa, .bool m.hp, .bool m.pres, .int .i64 m.code, .slice ac nc cc, .bool m.dup, .int .i64 m.q, .bool m.re, .string m.top, .int .i64 m.id, .string m.pay, .slice aw nw cw, .slice af nf cf]) rfl ?_
  intro q1 W2 g5 s3 r4
  have := Nat.le_trans hb0.size g5
  have b6 := hb0.trans (s3.mono hb0.size)
  refine fw_pu rfl ?_
  refine fw_dt ?_
  refine fw_sq ?_
  refine fw_hr (fun X => Below w.heap.size w X ∧ RowAt X q1 (Mq.row m (.slice ac nc cc) (.slice aw nw cw) (.slice af nf cf))) (by kernel_rfl) 27 rfl ?_
  intro W7 s8
  have b9 := b6.trans (s8.mono b6.size)
  have r10 := r4.below s8
  refine ⟨⟨b9, r10⟩, ?_⟩
  refine fw_tk 0 rfl rfl (by kernel_rfl) (fun _ _ _ _ _ h => h) ?_
  refine fw_tl 1 (fun _ h => h.2) rfl rfl rfl (by kernel_rfl) (fun _ _ _ _ _ h => h) ?_
  refine fw_tk 3 rfl rfl (by kernel_rfl) (fun _ _ _ _ _ h => h) ?_
  refine fw_tk 4 rfl rfl (by kernel_rfl) (fun _ _ _ _ _ h => h) ?_
  refine fw_tl 5 (fun _ h => h.2) rfl rfl rfl (by kernel_rfl) (fun _ _ _ _ _ h => h) ?_
  refine fw_tk 8 rfl rfl (by kernel_rfl) (fun _ _ _ _ _ h => h) ?_
  refine fw_tk 9 rfl rfl (by kernel_rfl) (fun _ _ _ _ _ h => h) ?_
  refine fw_tl 10 (fun _ h => h.2) rfl rfl rfl (by kernel_rfl) (fun _ _ _ _ _ h => h) ?_
  refine fw_tx 11 14 (.int .i64 (m.wQ * 8)) rfl rfl rfl rfl (fun a h W hW => by obtain ⟨b9, r10⟩ := hW; exact (run_binOp (h.ev rfl) (h.ev rfl) (by simp [go_sem]) (shl3 _ (by omega) (by omega) _))) (by kernel_rfl) (fun _ _ _ _ _ h => h) ?_
  refine fw_tk 13 rfl rfl (by kernel_rfl) (fun _ _ _ _ _ h => h) ?_
  refine fw_tk 14 rfl rfl (by kernel_rfl) (fun _ _ _ _ _ h => h) ?_
  refine fw_tl 15 (fun _ h => h.2) rfl rfl rfl (by kernel_rfl) (fun _ _ _ _ _ h => h) ?_
  refine fw_tk 18 rfl rfl (by kernel_rfl) (fun _ _ _ _ _ h => h) ?_
  refine fw_tl 19 (fun _ h => h.2) rfl rfl rfl (by kernel_rfl) (fun _ _ _ _ _ h => h) ?_
  refine fw_tk 22 rfl rfl (by kernel_rfl) (fun _ _ _ _ _ h => h) ?_
  refine fw_tl 23 (fun _ h => h.2) rfl rfl rfl (by kernel_rfl) (fun _ _ _ _ _ h => h) ?_
  refine fw_o1 2 (by kernel_rfl) ?_
  refine fw_oc rfl Tryd.func75 rfl rfl rfl ((flag_any m.clean 2 W7)) ?_
  rintro _ _ ⟨rfl, rfl⟩
  refine ⟨(.int .i64 (flg m.clean 2)), rfl, ?_⟩
  refine ⟨⟨b9, r10⟩, ?_⟩
  refine fw_o1 6 (by kernel_rfl) ?_
  refine fw_oc rfl Tryd.func75 rfl rfl rfl ((flag_any m.wI 4 W7)) ?_
  rintro _ _ ⟨rfl, rfl⟩
  refine ⟨(.int .i64 (flg m.wI 4)), rfl, ?_⟩
  refine ⟨⟨b9, r10⟩, ?_⟩
  refine fw_tx 7 10 (.int .i64 (bits .or .i64 (flg m.clean 2) (flg m.wI 4))) rfl rfl rfl rfl (fun a h W hW => by obtain ⟨b9, r10⟩ := hW; exact (run_binOp (h.ev rfl) (h.ev rfl) (by simp [go_sem]) (orI _ _ _))) (by kernel_rfl) (fun _ _ _ _ _ h => h) ?_
  refine fw_tx 12 15 (.int .i64 (bits .or .i64 (bits .or .i64 (flg m.clean 2) (flg m.wI 4)) (m.wQ * 8))) rfl rfl rfl rfl (fun a h W hW => by obtain ⟨b9, r10⟩ := hW; exact (run_binOp (h.ev rfl) (h.ev rfl) (by simp [go_sem]) (orI _ _ _))) (by kernel_rfl) (fun _ _ _ _ _ h => h) ?_
  refine fw_o1 16 (by kernel_rfl) ?_
  refine fw_oc rfl Tryd.func75 rfl rfl rfl ((flag_any m.wR 32 W7)) ?_
  rintro _ _ ⟨rfl, rfl⟩
  refine ⟨(.int .i64 (flg m.wR 32)), rfl, ?_⟩
  refine ⟨⟨b9, r10⟩, ?_⟩
  refine fw_tx 17 20 (.int .i64 (bits .or .i64 (bits .or .i64 (bits .or .i64 (flg m.clean 2) (flg m.wI 4)) (m.wQ * 8)) (flg m.wR 32))) rfl rfl rfl rfl (fun a h W hW => by obtain ⟨b9, r10⟩ := hW; exact (run_binOp (h.ev rfl) (h.ev rfl) (by simp [go_sem]) (orI _ _ _))) (by kernel_rfl) (fun _ _ _ _ _ h => h) ?_
  refine fw_o1 20 (by kernel_rfl) ?_
  refine fw_oc rfl Tryd.func75 rfl rfl rfl ((flag_any m.hp 64 W7)) ?_
  rintro _ _ ⟨rfl, rfl⟩
  refine ⟨(.int .i64 (flg m.hp 64)), rfl, ?_⟩
  refine ⟨⟨b9, r10⟩, ?_⟩
  refine fw_tx 21 24 (.int .i64 (bits .or .i64 (bits .or .i64 (bits .or .i64 (bits .or .i64 (flg m.clean 2) (flg m.wI 4)) (m.wQ * 8)) (flg m.wR 32)) (flg m.hp 64))) rfl rfl rfl rfl (fun a h W hW => by obtain ⟨b9, r10⟩ := hW; exact (run_binOp (h.ev rfl) (h.ev rfl) (by simp [go_sem]) (orI _ _ _))) (by kernel_rfl) (fun _ _ _ _ _ h => h) ?_
  refine fw_o1 24 (by kernel_rfl) ?_
  refine fw_oc rfl Tryd.func75 rfl rfl rfl ((flag_any m.hu 128 W7)) ?_
  rintro _ _ ⟨rfl, rfl⟩
  refine ⟨(.int .i64 (flg m.hu 128)), rfl, ?_⟩
  refine ⟨⟨b9, r10⟩, ?_⟩
  refine fw_tx 25 28 (.int .i64 (bits .or .i64 (bits .or .i64 (bits .or .i64 (bits .or .i64 (bits .or .i64 (flg m.clean 2) (flg m.wI 4)) (m.wQ * 8)) (flg m.wR 32)) (flg m.hp 64)) (flg m.hu 128))) rfl rfl rfl rfl (fun a h W hW => by obtain ⟨b9, r10⟩ := hW; exact (run_binOp (h.ev rfl) (h.ev rfl) (by simp [go_sem]) (orI _ _ _))) (by kernel_rfl) (fun _ _ _ _ _ h => h) ?_
  refine fw_tk 26 rfl rfl (by kernel_rfl) (fun _ _ _ _ _ h => h) ?_
  refine fw_ht (by kernel_rfl) ?_
  refine fw_rt ?_
  refine ⟨fun a h => ?_⟩
  exact ow_ret1 rfl h.df (h.g 2 rfl) ⟨by rfl, b9⟩
set_option maxRecDepth 100000 in
set_option maxHeartbeats 4000000 in
theorem flagsOfG (m : Mq) (ac aw af : Option Addr) (nc nw nf cc cw cf : Nat) (w : World) (hS : Small m) :
    Calls Tryd.prog 51 #[.agg (Mq.row m (.slice ac nc cc) (.slice aw nw cw) (.slice af nf cf)).toArray] w fun e w' => e = .returned (.int .i64 (flG m)) ∧ Below w.heap.size w w' := by
  have hb0 := Below.refl w.heap.size w
  have hS0 := hS.cl
  have hS1 := hS.wT
  have hS2 := hS.wP
  have hS3 := hS.us
  have hS4 := hS.pa
  have hS5 := hS.top
  have hS6 := hS.pay
  have hS7 := hS.wQ
  have hS8 := hS.q
  have hS9 := hS.k
  have hS10 := hS.cs
  have hS11 := hS.ws
  have hS12 := hS.fs
  refine fw_en 22 [(0, .agg (Mq.row m (.slice ac nc cc) (.slice aw nw cw) (.slice af nf cf)).toArray)] Tryd.func51 rfl Tryd.ntmps51 rfl ⟨rfl, trivial⟩ ?_
  refine fw_sq ?_
  refine fw_rg rfl ?_
  refine fw_bx rfl (cs := [.int .i64 m.k, .string m.cl, .bool m.clean, .int .i64 m.keep, .bool m.wI, .string m.wT, .string m.wP, .int .i64 m.wQ, .bool m.wR, .string m.us, .bool m.hu, .string m.pa, .bool m.hp, .bool m.pres, .int .i64 m.code, .slice ac nc cc, .bool m.dup, .int .i64 m.q, .bool m.re, .string m.top, .int .i64 m.id, .string m.pay, .slice aw nw cw, .slice af nf cf]) rfl ?_
  intro q1 W2 g5 s3 r4
  have := Nat.le_trans hb0.size g5
  have b6 := hb0.trans (s3.mono hb0.size)
  refine fw_pu rfl ?_
  refine fw_dt ?_
  refine fw_sq ?_
  refine fw_sq ?_
  refine fw_rg rfl ?_
  refine fw_pu rfl ?_
  refine fw_ld r4 rfl rfl ?_
  refine fw_dt ?_
  refine fw_bk ?_
  refine fw_sq ?_
  refine fw_rg rfl ?_
  iterate 2 refine fw_pu rfl ?_
  refine fw_dt ?_
  rcases Bool.eq_false_or_eq_true ((m.k == 3)) with hb_7 | hb_7
  · skip
    refine fw_cT rfl hb_7 ?_
    refine fw_sq ?_
    refine fw_hr (fun X => Below w.heap.size w X ∧ RowAt X q1 (Mq.row m (.slice ac nc cc) (.slice aw nw cw) (.slice af nf cf))) (by kernel_rfl) 12 rfl ?_
    intro W8 s9
    have b10 := b6.trans (s9.mono b6.size)
    have r11 := r4.below s9
    refine ⟨⟨b10, r11⟩, ?_⟩
    refine fw_tk 0 rfl rfl (by kernel_rfl) (fun _ _ _ _ _ h => h) ?_
    refine fw_tl 1 (fun _ h => h.2) rfl rfl rfl (by kernel_rfl) (fun _ _ _ _ _ h => h) ?_
    refine fw_tk 3 rfl rfl (by kernel_rfl) (fun _ _ _ _ _ h => h) ?_
    refine fw_tl 4 (fun _ h => h.2) rfl rfl rfl (by kernel_rfl) (fun _ _ _ _ _ h => h) ?_
    refine fw_tx 5 12 (.int .i64 (m.q * 2)) rfl rfl rfl rfl (fun a h W hW => by obtain ⟨b10, r11⟩ := hW; exact (run_binOp (h.ev rfl) (h.ev rfl) (by simp [go_sem]) (shl1 _ (by omega) (by omega) _))) (by kernel_rfl) (fun _ _ _ _ _ h => h) ?_
    refine fw_tk 7 rfl rfl (by kernel_rfl) (fun _ _ _ _ _ h => h) ?_
    refine fw_tl 8 (fun _ h => h.2) rfl rfl rfl (by kernel_rfl) (fun _ _ _ _ _ h => h) ?_
    refine fw_o1 2 (by kernel_rfl) ?_
    refine fw_oc rfl Tryd.func75 rfl rfl rfl ((flag_any m.dup 8 W8)) ?_
    rintro _ _ ⟨rfl, rfl⟩
    refine ⟨(.int .i64 (flg m.dup 8)), rfl, ?_⟩
    refine ⟨⟨b10, r11⟩, ?_⟩
    refine fw_tx 6 13 (.int .i64 (bits .or .i64 (flg m.dup 8) (m.q * 2))) rfl rfl rfl rfl (fun a h W hW => by obtain ⟨b10, r11⟩ := hW; exact (run_binOp (h.ev rfl) (h.ev rfl) (by simp [go_sem]) (orI _ _ _))) (by kernel_rfl) (fun _ _ _ _ _ h => h) ?_
    refine fw_o1 9 (by kernel_rfl) ?_
    refine fw_oc rfl Tryd.func75 rfl rfl rfl ((flag_any m.re 1 W8)) ?_
    rintro _ _ ⟨rfl, rfl⟩
    refine ⟨(.int .i64 (flg m.re 1)), rfl, ?_⟩
    refine ⟨⟨b10, r11⟩, ?_⟩
    refine fw_tx 10 17 (.int .i64 (bits .or .i64 (bits .or .i64 (flg m.dup 8) (m.q * 2)) (flg m.re 1))) rfl rfl rfl rfl (fun a h W hW => by obtain ⟨b10, r11⟩ := hW; exact (run_binOp (h.ev rfl) (h.ev rfl) (by simp [go_sem]) (orI _ _ _))) (by kernel_rfl) (fun _ _ _ _ _ h => h) ?_
    refine fw_tk 11 rfl rfl (by kernel_rfl) (fun _ _ _ _ _ h => h) ?_
    refine fw_ht (by kernel_rfl) ?_
    refine fw_rt ?_
    refine fw_br ?_
    refine fw_tr ?_
    refine ⟨fun a h => ?_⟩
    exact ow_ret1 rfl h.df (h.g 2 rfl) ⟨by unfold flG; simp [hb_7], b10⟩
  refine fw_cF rfl hb_7 ?_
  refine fw_sq ?_
  refine fw_sq ?_
  refine fw_rg rfl ?_
  iterate 2 refine fw_pu rfl ?_
  refine fw_dt ?_
  rcases Bool.eq_false_or_eq_true ((m.k == 6)) with hb_12 | hb_12
  · skip
    refine fw_cT rfl hb_12 ?_
    refine fw_sk ?_
    refine fw_th ?_
    refine fw_cT rfl hb_12 ?_
    refine fw_sq ?_
    refine fw_rg rfl ?_
    refine fw_pu rfl ?_
    refine fw_dt ?_
    refine fw_rt ?_
    refine fw_br ?_
    refine fw_tr ?_
    refine ⟨fun a h => ?_⟩
    exact ow_ret1 rfl h.df (h.g 2 rfl) ⟨by unfold flG; simp [hb_7, hb_12], b6⟩
  refine fw_cF rfl hb_12 ?_
  refine fw_sq ?_
  refine fw_rg rfl ?_
  iterate 2 refine fw_pu rfl ?_
  refine fw_dt ?_
  rcases Bool.eq_false_or_eq_true ((m.k == 8)) with hb_13 | hb_13
  · skip
    refine fw_cT rfl hb_13 ?_
    refine fw_sk ?_
    refine fw_th ?_
    refine fw_cT rfl hb_13 ?_
    refine fw_sq ?_
    refine fw_rg rfl ?_
    refine fw_pu rfl ?_
    refine fw_dt ?_
    refine fw_rt ?_
    refine fw_br ?_
    refine fw_tr ?_
    refine ⟨fun a h => ?_⟩
    exact ow_ret1 rfl h.df (h.g 2 rfl) ⟨by unfold flG; simp [hb_7, hb_12, hb_13], b6⟩
  refine fw_cF rfl hb_13 ?_
  refine fw_rg rfl ?_
  iterate 2 refine fw_pu rfl ?_
  refine fw_dt ?_
  rcases Bool.eq_false_or_eq_true ((m.k == 10)) with hb_14 | hb_14
  · skip
    refine fw_cT rfl hb_14 ?_
    refine fw_sq ?_
    refine fw_rg rfl ?_
    refine fw_pu rfl ?_
    refine fw_dt ?_
    refine fw_rt ?_
    refine fw_br ?_
    refine fw_tr ?_
    refine ⟨fun a h => ?_⟩
    exact ow_ret1 rfl h.df (h.g 2 rfl) ⟨by unfold flG; simp [hb_7, hb_12, hb_13, hb_14], b6⟩
  refine fw_cF rfl hb_14 ?_
  refine fw_sk ?_
  refine fw_bn ?_
  refine fw_th ?_
  refine fw_sq ?_
  refine fw_rg rfl ?_
  refine fw_pu rfl ?_
  refine fw_dt ?_
  refine fw_rt ?_
  refine ⟨fun a h => ?_⟩
  exact ow_ret1 rfl h.df (h.g 2 rfl) ⟨by unfold flG; simp [hb_7, hb_12, hb_13, hb_14], b6⟩
theorem mqtt_enc : encS { data := #[77, 81, 84, 84] } = mqtt := by decide +kernel
theorem mqtt_len : mqtt.length = 6 := rfl
theorem b8_4 : b8I 4 = 4 := by decide +kernel
set_option maxRecDepth 100000 in
set_option maxHeartbeats 4000000 in
theorem connectBodyG (m : Mq) (ac aw af : Option Addr) (nc nw nf cc cw cf : Nat) (w : World) (hS : Small m) :
    Calls Tryd.prog 74 #[.agg (Mq.row m (.slice ac nc cc) (.slice aw nw cw) (.slice af nf cf)).toArray] w fun e w' => ∃ l a c, e = .returned (.slice a l.length c) ∧ l = cbG m ∧ l.length ≤ 60000 ∧ OB w' w.heap.size a c l ∧ Below w.heap.size w w' := by
  have hb0 := Below.refl w.heap.size w
  have hS0 := hS.cl
  have hS1 := hS.wT
  have hS2 := hS.wP
  have hS3 := hS.us
  have hS4 := hS.pa
  have hS5 := hS.top
  have hS6 := hS.pay
  have hS7 := hS.wQ
  have hS8 := hS.q
  have hS9 := hS.k
  have hS10 := hS.cs
  have hS11 := hS.ws
  have hS12 := hS.fs
  refine fw_en 44 [(0, .agg (Mq.row m (.slice ac nc cc) (.slice aw nw cw) (.slice af nf cf)).toArray)] Tryd.func74 rfl Tryd.ntmps74 rfl ⟨rfl, trivial⟩ ?_
  refine fw_sq ?_
  refine fw_rg rfl ?_
  refine fw_bx rfl (cs := [.int .i64 m.k, .string m.cl, .bool m.clean, .int .i64 m.keep, .bool m.wI, .string m.wT, .string m.wP, .int .i64 m.wQ, .bool m.wR, .string m.us, .bool m.hu, .string m.pa, .bool m.hp, .bool m.pres, .int .i64 m.code, .slice ac nc cc, .bool m.dup, .int .i64 m.q, .bool m.re, .string m.top, .int .i64 m.id, .string m.pay, .slice aw nw cw, .slice af nf cf]) rfl ?_
  intro q1 W2 g5 s3 r4
  have := Nat.le_trans hb0.size g5
  have b6 := hb0.trans (s3.mono hb0.size)
  refine fw_pu rfl ?_
  refine fw_dt ?_
  refine fw_sq ?_
  refine fw_rg rfl ?_
  obtain ⟨B, hB⟩ : ∃ x, x = W2.heap.size := ⟨_, rfl⟩
  have : q1 < B := by rw [hB]; exact r4.2.2
  have hwB : w.heap.size ≤ B := by rw [hB]; exact b6.size
  have hBs : B ≤ W2.heap.size := Nat.le_of_eq hB
  have ho7 := ob_nil W2 B
  refine fw_ca Tryd.func76 rfl rfl rfl (strPut (l := ([] : List UInt8)) (ad := none) (c := 0) ({ data := #[77, 81, 84, 84] } : ByteArray) ho7 (by decide) (by rw [nil_len]; omega) hBs) ?_
  rintro _ V9 ⟨l8, a8, c8, rfl, hl8, hg8, ho8⟩
  refine ⟨_, rfl, ?_⟩
  have r10 := row_grew r4 hg8 (ob_off ho7 (by omega))
  have b11 := ob_low b6 ho7 hg8 hwB (Nat.le_trans hwB hBs)
  have hBs := Nat.le_trans hBs hg8.1.size
  rw [mqtt_enc] at hl8
  have hn8 : l8.length ≤ 1003 := by rw [hl8, List.length_append]; (try rw [nil_len]); first | (rw [bigv_length]; omega) | (rw [encS_len]; omega) | (rw [one_len]; omega) | (rw [two_len]; omega) | (rw [str_len]; omega) | (rw [mqtt_len]; omega)
  refine fw_pu rfl ?_
  refine fw_dt ?_
  refine fw_sq ?_
  refine fw_rg rfl ?_
  refine fw_pu rfl ?_
  refine fw_ld r10 rfl rfl ?_
  refine fw_ca Tryd.func94 rfl rfl rfl ((connectFlagsG m ac aw af _ _ _ cc cw cf V9 hS)) ?_
  rintro _ V13 ⟨rfl, hb12⟩
  refine ⟨(.int .i64 (cfG m)), rfl, ?_⟩
  have b14 := b11.trans (hb12.mono b11.size)
  have r15 := r10.below hb12
  have f16 := (below_own ho8 hb12)
  have hBs := Nat.le_trans hBs hb12.size
  refine fw_ex 8 (B8 (b8I (cfG m))) rfl rfl rfl (fun a h => (run_convOp (h.ev rfl) (cvI8 _ _))) ?_
  refine fw_al (t := 5) (u := fun q => .slice (some ⟨q, 0, none⟩) 2 2) 9 [B8 4, B8 (b8I (cfG m))] rfl rfl rfl (fun a h => (bs8_2 _ ((h.ev rfl).trans b8c4) (h.ev rfl))) ?_
  intro q17 W18 g21 s19 r20
  have := Nat.le_trans b14.size g21
  have := r15.lt g21
  have hapq17 := ob_new f16 g21
  have b22 := b14.trans (s19.mono b14.size)
  have r23 := r15.below s19
  have f24 := (below_own f16 s19)
  have hBs := Nat.le_trans hBs s19.size
  refine fw_to 10 rfl rfl rfl (fun a h => opTo_byt (l := l8) (ad := a8) (c := c8) _ _ rfl (h.ev rfl) f24 (h.ev rfl) (slBB _ _ 4 (b8I (cfG m)) r20) (by omega) (by simp) hBs) ?_
  rintro _ V26 ⟨l25, a25, c25, rfl, hl25, hg25, ho25⟩
  have r27 := row_grew r23 hg25 (ob_off f24 (by omega))
  have r28 := row_grew r20 hg25 hapq17
  replace hapq17 := grew_off hg25 hapq17 r20.2.2
  have b29 := ob_low b22 f24 hg25 hwB (Nat.le_trans hwB hBs)
  have hBs := Nat.le_trans hBs hg25.1.size
  have hn25 : l25.length ≤ 2006 := by rw [hl25, List.length_append]; (try rw [nil_len]); first | (rw [bigv_length]; omega) | (rw [encS_len]; omega) | (rw [one_len]; omega) | (rw [two_len]; omega) | (rw [str_len]; omega) | (rw [mqtt_len]; omega)
  refine fw_pu rfl ?_
  refine fw_dt ?_
  refine fw_sq ?_
  refine fw_rg rfl ?_
  iterate 2 refine fw_pu rfl ?_
  refine fw_ld r27 rfl rfl ?_
  refine fw_ca Tryd.func77 rfl rfl rfl (numPut (l := l25) (ad := a25) (c := c25) m.keep 2 ho25 (by decide) (by omega) hBs) ?_
  rintro _ V31 ⟨l30, a30, c30, rfl, hl30, hg30, ho30⟩
  refine ⟨_, rfl, ?_⟩
  have r32 := row_grew r27 hg30 (ob_off ho25 (by omega))
  have r33 := row_grew r28 hg30 hapq17
  replace hapq17 := grew_off hg30 hapq17 r28.2.2
  have b34 := ob_low b29 ho25 hg30 hwB (Nat.le_trans hwB hBs)
  have hBs := Nat.le_trans hBs hg30.1.size
  have hn30 : l30.length ≤ 3009 := by rw [hl30, List.length_append]; (try rw [nil_len]); first | (rw [bigv_length]; omega) | (rw [encS_len]; omega) | (rw [one_len]; omega) | (rw [two_len]; omega) | (rw [str_len]; omega) | (rw [mqtt_len]; omega)
  refine fw_pu rfl ?_
  refine fw_dt ?_
  refine fw_sq ?_
  refine fw_rg rfl ?_
  iterate 2 refine fw_pu rfl ?_
  refine fw_ld r32 rfl rfl ?_
  refine fw_ca Tryd.func76 rfl rfl rfl (strPut (l := l30) (ad := a30) (c := c30) m.cl ho30 (by omega) (by omega) hBs) ?_
  rintro _ V36 ⟨l35, a35, c35, rfl, hl35, hg35, ho35⟩
  refine ⟨_, rfl, ?_⟩
  have r37 := row_grew r32 hg35 (ob_off ho30 (by omega))
  have r38 := row_grew r33 hg35 hapq17
  replace hapq17 := grew_off hg35 hapq17 r33.2.2
  have b39 := ob_low b34 ho30 hg35 hwB (Nat.le_trans hwB hBs)
  have hBs := Nat.le_trans hBs hg35.1.size
  have hn35 : l35.length ≤ 4012 := by rw [hl35, List.length_append]; (try rw [nil_len]); first | (rw [bigv_length]; omega) | (rw [encS_len]; omega) | (rw [one_len]; omega) | (rw [two_len]; omega) | (rw [str_len]; omega) | (rw [mqtt_len]; omega)
  refine fw_pu rfl ?_
  refine fw_dt ?_
  refine fw_sq ?_
  refine fw_sq ?_
  refine fw_rg rfl ?_
  iterate 2 refine fw_pu rfl ?_
  refine fw_ld r37 rfl rfl ?_
  refine fw_dt ?_
  rcases Bool.eq_false_or_eq_true (m.wI) with hb_40 | hb_40
  · skip
    refine fw_cT rfl hb_40 ?_
    refine fw_hr (fun X => Below w.heap.size w X ∧ RowAt X q1 (Mq.row m (.slice ac nc cc) (.slice aw nw cw) (.slice af nf cf)) ∧ RowAt X q17 [B8 4, B8 (b8I (cfG m))]) (by kernel_rfl) 10 rfl ?_
    intro W41 s42
    have b43 := b39.trans (s42.mono b39.size)
    have r44 := r37.below s42
    have r45 := r38.below s42
    have f46 := (below_own ho35 s42)
    have hBs := Nat.le_trans hBs s42.size
    refine ⟨⟨b43, r44, r45⟩, ?_⟩
    refine fw_tk 0 rfl rfl (by kernel_rfl) (fun _ _ _ _ _ h => h) ?_
    refine fw_tk 1 rfl rfl (by kernel_rfl) (fun _ _ _ _ _ h => h) ?_
    refine fw_tk 2 rfl rfl (by kernel_rfl) (fun _ _ _ _ _ h => h) ?_
    refine fw_tl 3 (fun _ h => h.2.1) rfl rfl rfl (by kernel_rfl) (fun _ _ _ _ _ h => h) ?_
    refine fw_tk 5 rfl rfl (by kernel_rfl) (fun _ _ _ _ _ h => h) ?_
    refine fw_tk 6 rfl rfl (by kernel_rfl) (fun _ _ _ _ _ h => h) ?_
    refine fw_tl 7 (fun _ h => h.2.1) rfl rfl rfl (by kernel_rfl) (fun _ _ _ _ _ h => h) ?_
    refine fw_o1 4 (by kernel_rfl) ?_
    refine fw_oc rfl Tryd.func76 rfl rfl rfl (strPut (l := l35) (ad := a35) (c := c35) m.wT f46 (by omega) (by omega) hBs) ?_
    rintro _ V48 ⟨l47, a47, c47, rfl, hl47, hg47, ho47⟩
    refine ⟨_, rfl, ?_⟩
    have r49 := row_grew r44 hg47 (ob_off f46 (by omega))
    have r50 := row_grew r45 hg47 hapq17
    replace hapq17 := grew_off hg47 hapq17 r45.2.2
    have b51 := ob_low b43 f46 hg47 hwB (Nat.le_trans hwB hBs)
    have hBs := Nat.le_trans hBs hg47.1.size
    have hn47 : l47.length ≤ 5015 := by rw [hl47, List.length_append]; (try rw [nil_len]); first | (rw [bigv_length]; omega) | (rw [encS_len]; omega) | (rw [one_len]; omega) | (rw [two_len]; omega) | (rw [str_len]; omega) | (rw [mqtt_len]; omega)
    refine ⟨⟨b51, r49, r50⟩, ?_⟩
    refine fw_o1 8 (by kernel_rfl) ?_
    refine fw_oc rfl Tryd.func76 rfl rfl rfl (strPut (l := l47) (ad := a47) (c := c47) m.wP ho47 (by omega) (by omega) hBs) ?_
    rintro _ V53 ⟨l52, a52, c52, rfl, hl52, hg52, ho52⟩
    refine ⟨_, rfl, ?_⟩
    have r54 := row_grew r49 hg52 (ob_off ho47 (by omega))
    have r55 := row_grew r50 hg52 hapq17
    replace hapq17 := grew_off hg52 hapq17 r50.2.2
    have b56 := ob_low b51 ho47 hg52 hwB (Nat.le_trans hwB hBs)
    have hBs := Nat.le_trans hBs hg52.1.size
    have hn52 : l52.length ≤ 6018 := by rw [hl52, List.length_append]; (try rw [nil_len]); first | (rw [bigv_length]; omega) | (rw [encS_len]; omega) | (rw [one_len]; omega) | (rw [two_len]; omega) | (rw [str_len]; omega) | (rw [mqtt_len]; omega)
    refine ⟨⟨b56, r54, r55⟩, ?_⟩
    refine fw_tk 9 rfl rfl (by kernel_rfl) (fun _ _ _ _ _ h => h) ?_
    refine fw_ht (by kernel_rfl) ?_
    refine fw_sq ?_
    refine fw_sq ?_
    refine fw_rg rfl ?_
    refine fw_pu rfl ?_
    refine fw_ld r54 rfl rfl ?_
    refine fw_dt ?_
    rcases Bool.eq_false_or_eq_true (m.hu) with hb_57 | hb_57
    · skip
      refine fw_cT rfl hb_57 ?_
      refine fw_rg rfl ?_
      iterate 2 refine fw_pu rfl ?_
      refine fw_ld r54 rfl rfl ?_
      refine fw_ca Tryd.func76 rfl rfl rfl (strPut (l := l52) (ad := a52) (c := c52) m.us ho52 (by omega) (by omega) hBs) ?_
      rintro _ V59 ⟨l58, a58, c58, rfl, hl58, hg58, ho58⟩
      refine ⟨_, rfl, ?_⟩
      have r60 := row_grew r54 hg58 (ob_off ho52 (by omega))
      have r61 := row_grew r55 hg58 hapq17
      replace hapq17 := grew_off hg58 hapq17 r55.2.2
      have b62 := ob_low b56 ho52 hg58 hwB (Nat.le_trans hwB hBs)
      have hBs := Nat.le_trans hBs hg58.1.size
      have hn58 : l58.length ≤ 7021 := by rw [hl58, List.length_append]; (try rw [nil_len]); first | (rw [bigv_length]; omega) | (rw [encS_len]; omega) | (rw [one_len]; omega) | (rw [two_len]; omega) | (rw [str_len]; omega) | (rw [mqtt_len]; omega)
      refine fw_pu rfl ?_
      refine fw_dt ?_
      refine fw_sq ?_
      refine fw_sq ?_
      refine fw_rg rfl ?_
      refine fw_pu rfl ?_
      refine fw_ld r60 rfl rfl ?_
      refine fw_dt ?_
      rcases Bool.eq_false_or_eq_true (m.hp) with hb_63 | hb_63
      · skip
        refine fw_cT rfl hb_63 ?_
        refine fw_rg rfl ?_
        iterate 2 refine fw_pu rfl ?_
        refine fw_ld r60 rfl rfl ?_
        refine fw_ca Tryd.func76 rfl rfl rfl (strPut (l := l58) (ad := a58) (c := c58) m.pa ho58 (by omega) (by omega) hBs) ?_
        rintro _ V65 ⟨l64, a64, c64, rfl, hl64, hg64, ho64⟩
        refine ⟨_, rfl, ?_⟩
        have r66 := row_grew r60 hg64 (ob_off ho58 (by omega))
        have r67 := row_grew r61 hg64 hapq17
        replace hapq17 := grew_off hg64 hapq17 r61.2.2
        have b68 := ob_low b62 ho58 hg64 hwB (Nat.le_trans hwB hBs)
        have hBs := Nat.le_trans hBs hg64.1.size
        have hn64 : l64.length ≤ 8024 := by rw [hl64, List.length_append]; (try rw [nil_len]); first | (rw [bigv_length]; omega) | (rw [encS_len]; omega) | (rw [one_len]; omega) | (rw [two_len]; omega) | (rw [str_len]; omega) | (rw [mqtt_len]; omega)
        refine fw_pu rfl ?_
        refine fw_dt ?_
        refine fw_sq ?_
        refine fw_rg rfl ?_
        iterate 2 refine fw_pu rfl ?_
        refine fw_dt ?_
        refine fw_rt ?_
        refine ⟨fun a h => ?_⟩
        exact ow_ret1 rfl h.df (h.g 2 rfl) ⟨_, _, _, rfl, by unfold cbG; simp [hb_40, hb_57, hb_63, hl8, hl25, hl30, hl35, hl47, hl52, hl58, hl64], by omega, own_mono ho64 hwB, b68⟩
      refine fw_cF rfl hb_63 ?_
      refine fw_sk ?_
      refine fw_th ?_
      refine fw_sq ?_
      refine fw_rg rfl ?_
      iterate 2 refine fw_pu rfl ?_
      refine fw_dt ?_
      refine fw_rt ?_
      refine ⟨fun a h => ?_⟩
      exact ow_ret1 rfl h.df (h.g 2 rfl) ⟨_, _, _, rfl, by unfold cbG; simp [hb_40, hb_57, hb_63, hl8, hl25, hl30, hl35, hl47, hl52, hl58], by omega, own_mono ho58 hwB, b62⟩
    refine fw_cF rfl hb_57 ?_
    refine fw_sk ?_
    refine fw_th ?_
    refine fw_sq ?_
    refine fw_sq ?_
    refine fw_rg rfl ?_
    refine fw_pu rfl ?_
    refine fw_ld r54 rfl rfl ?_
    refine fw_dt ?_
    rcases Bool.eq_false_or_eq_true (m.hp) with hb_69 | hb_69
    · skip
      refine fw_cT rfl hb_69 ?_
      refine fw_rg rfl ?_
      iterate 2 refine fw_pu rfl ?_
      refine fw_ld r54 rfl rfl ?_
      refine fw_ca Tryd.func76 rfl rfl rfl (strPut (l := l52) (ad := a52) (c := c52) m.pa ho52 (by omega) (by omega) hBs) ?_
      rintro _ V71 ⟨l70, a70, c70, rfl, hl70, hg70, ho70⟩
      refine ⟨_, rfl, ?_⟩
      have r72 := row_grew r54 hg70 (ob_off ho52 (by omega))
      have r73 := row_grew r55 hg70 hapq17
      replace hapq17 := grew_off hg70 hapq17 r55.2.2
      have b74 := ob_low b56 ho52 hg70 hwB (Nat.le_trans hwB hBs)
      have hBs := Nat.le_trans hBs hg70.1.size
      have hn70 : l70.length ≤ 7021 := by rw [hl70, List.length_append]; (try rw [nil_len]); first | (rw [bigv_length]; omega) | (rw [encS_len]; omega) | (rw [one_len]; omega) | (rw [two_len]; omega) | (rw [str_len]; omega) | (rw [mqtt_len]; omega)
      refine fw_pu rfl ?_
      refine fw_dt ?_
      refine fw_sq ?_
      refine fw_rg rfl ?_
      iterate 2 refine fw_pu rfl ?_
      refine fw_dt ?_
      refine fw_rt ?_
      refine ⟨fun a h => ?_⟩
      exact ow_ret1 rfl h.df (h.g 2 rfl) ⟨_, _, _, rfl, by unfold cbG; simp [hb_40, hb_57, hb_69, hl8, hl25, hl30, hl35, hl47, hl52, hl70], by omega, own_mono ho70 hwB, b74⟩
    refine fw_cF rfl hb_69 ?_
    refine fw_sk ?_
    refine fw_th ?_
    refine fw_sq ?_
    refine fw_rg rfl ?_
    iterate 2 refine fw_pu rfl ?_
    refine fw_dt ?_
    refine fw_rt ?_
    refine ⟨fun a h => ?_⟩
    exact ow_ret1 rfl h.df (h.g 2 rfl) ⟨_, _, _, rfl, by unfold cbG; simp [hb_40, hb_57, hb_69, hl8, hl25, hl30, hl35, hl47, hl52], by omega, own_mono ho52 hwB, b56⟩
  refine fw_cF rfl hb_40 ?_
  refine fw_sk ?_
  refine fw_th ?_
  refine fw_sq ?_
  refine fw_sq ?_
  refine fw_rg rfl ?_
  refine fw_pu rfl ?_
  refine fw_ld r37 rfl rfl ?_
  refine fw_dt ?_
  rcases Bool.eq_false_or_eq_true (m.hu) with hb_75 | hb_75
  · skip
    refine fw_cT rfl hb_75 ?_
    refine fw_rg rfl ?_
    iterate 2 refine fw_pu rfl ?_
    refine fw_ld r37 rfl rfl ?_
    refine fw_ca Tryd.func76 rfl rfl rfl (strPut (l := l35) (ad := a35) (c := c35) m.us ho35 (by omega) (by omega) hBs) ?_
    rintro _ V77 ⟨l76, a76, c76, rfl, hl76, hg76, ho76⟩
    refine ⟨_, rfl, ?_⟩
    have r78 := row_grew r37 hg76 (ob_off ho35 (by omega))
    have r79 := row_grew r38 hg76 hapq17
    replace hapq17 := grew_off hg76 hapq17 r38.2.2
    have b80 := ob_low b39 ho35 hg76 hwB (Nat.le_trans hwB hBs)
    have hBs := Nat.le_trans hBs hg76.1.size
    have hn76 : l76.length ≤ 5015 := by rw [hl76, List.length_append]; (try rw [nil_len]); first | (rw [bigv_length]; omega) | (rw [encS_len]; omega) | (rw [one_len]; omega) | (rw [two_len]; omega) | (rw [str_len]; omega) | (rw [mqtt_len]; omega)
    refine fw_pu rfl ?_
    refine fw_dt ?_
    refine fw_sq ?_
    refine fw_sq ?_
    refine fw_rg rfl ?_
    refine fw_pu rfl ?_
    refine fw_ld r78 rfl rfl ?_
    refine fw_dt ?_
    rcases Bool.eq_false_or_eq_true (m.hp) with hb_81 | hb_81
    · skip
      refine fw_cT rfl hb_81 ?_
      refine fw_rg rfl ?_
      iterate 2 refine fw_pu rfl ?_
      refine fw_ld r78 rfl rfl ?_
      refine fw_ca Tryd.func76 rfl rfl rfl (strPut (l := l76) (ad := a76) (c := c76) m.pa ho76 (by omega) (by omega) hBs) ?_
      rintro _ V83 ⟨l82, a82, c82, rfl, hl82, hg82, ho82⟩
      refine ⟨_, rfl, ?_⟩
      have r84 := row_grew r78 hg82 (ob_off ho76 (by omega))
      have r85 := row_grew r79 hg82 hapq17
      replace hapq17 := grew_off hg82 hapq17 r79.2.2
      have b86 := ob_low b80 ho76 hg82 hwB (Nat.le_trans hwB hBs)
      have hBs := Nat.le_trans hBs hg82.1.size
      have hn82 : l82.length ≤ 6018 := by rw [hl82, List.length_append]; (try rw [nil_len]); first | (rw [bigv_length]; omega) | (rw [encS_len]; omega) | (rw [one_len]; omega) | (rw [two_len]; omega) | (rw [str_len]; omega) | (rw [mqtt_len]; omega)
      refine fw_pu rfl ?_
      refine fw_dt ?_
      refine fw_sq ?_
      refine fw_rg rfl ?_
      iterate 2 refine fw_pu rfl ?_
      refine fw_dt ?_
      refine fw_rt ?_
      refine ⟨fun a h => ?_⟩
      exact ow_ret1 rfl h.df (h.g 2 rfl) ⟨_, _, _, rfl, by unfold cbG; simp [hb_40, hb_75, hb_81, hl8, hl25, hl30, hl35, hl76, hl82], by omega, own_mono ho82 hwB, b86⟩
    refine fw_cF rfl hb_81 ?_
    refine fw_sk ?_
    refine fw_th ?_
    refine fw_sq ?_
    refine fw_rg rfl ?_
    iterate 2 refine fw_pu rfl ?_
    refine fw_dt ?_
    refine fw_rt ?_
    refine ⟨fun a h => ?_⟩
    exact ow_ret1 rfl h.df (h.g 2 rfl) ⟨_, _, _, rfl, by unfold cbG; simp [hb_40, hb_75, hb_81, hl8, hl25, hl30, hl35, hl76], by omega, own_mono ho76 hwB, b80⟩
  refine fw_cF rfl hb_75 ?_
  refine fw_sk ?_
  refine fw_th ?_
  refine fw_sq ?_
  refine fw_sq ?_
  refine fw_rg rfl ?_
  refine fw_pu rfl ?_
  refine fw_ld r37 rfl rfl ?_
  refine fw_dt ?_
  rcases Bool.eq_false_or_eq_true (m.hp) with hb_87 | hb_87
  · skip
    refine fw_cT rfl hb_87 ?_
    refine fw_rg rfl ?_
    iterate 2 refine fw_pu rfl ?_
    refine fw_ld r37 rfl rfl ?_
    refine fw_ca Tryd.func76 rfl rfl rfl (strPut (l := l35) (ad := a35) (c := c35) m.pa ho35 (by omega) (by omega) hBs) ?_
    rintro _ V89 ⟨l88, a88, c88, rfl, hl88, hg88, ho88⟩
    refine ⟨_, rfl, ?_⟩
    have r90 := row_grew r37 hg88 (ob_off ho35 (by omega))
    have r91 := row_grew r38 hg88 hapq17
    replace hapq17 := grew_off hg88 hapq17 r38.2.2
    have b92 := ob_low b39 ho35 hg88 hwB (Nat.le_trans hwB hBs)
    have hBs := Nat.le_trans hBs hg88.1.size
    have hn88 : l88.length ≤ 5015 := by rw [hl88, List.length_append]; (try rw [nil_len]); first | (rw [bigv_length]; omega) | (rw [encS_len]; omega) | (rw [one_len]; omega) | (rw [two_len]; omega) | (rw [str_len]; omega) | (rw [mqtt_len]; omega)
    refine fw_pu rfl ?_
    refine fw_dt ?_
    refine fw_sq ?_
    refine fw_rg rfl ?_
    iterate 2 refine fw_pu rfl ?_
    refine fw_dt ?_
    refine fw_rt ?_
    refine ⟨fun a h => ?_⟩
    exact ow_ret1 rfl h.df (h.g 2 rfl) ⟨_, _, _, rfl, by unfold cbG; simp [hb_40, hb_75, hb_87, hl8, hl25, hl30, hl35, hl88], by omega, own_mono ho88 hwB, b92⟩
  refine fw_cF rfl hb_87 ?_
  refine fw_sk ?_
  refine fw_th ?_
  refine fw_sq ?_
  refine fw_rg rfl ?_
  iterate 2 refine fw_pu rfl ?_
  refine fw_dt ?_
  refine fw_rt ?_
  refine ⟨fun a h => ?_⟩
  exact ow_ret1 rfl h.df (h.g 2 rfl) ⟨_, _, _, rfl, by unfold cbG; simp [hb_40, hb_75, hb_87, hl8, hl25, hl30, hl35], by omega, own_mono ho35 hwB, b39⟩
theorem take_fm {α : Type} {f : α → List UInt8} {L : List α} {i : Nat} {x : α} (h : L[i]? = some x) : (L.take (i + 1)).flatMap f = (L.take i).flatMap f ++ f x := by
  rw [List.take_add_one, h, List.flatMap_append]; simp
theorem take_mp {f : Int → UInt8} {L : List Int} {i : Nat} {x : Int} (h : L[i]? = some x) : (L.take (i + 1)).map f = (L.take i).map f ++ [f x] := by
  rw [List.take_add_one, h, List.map_append]; rfl
set_option maxRecDepth 100000 in
set_option maxHeartbeats 4000000 in
theorem bodyOfG (m : Mq) (ac aw af : Option Addr) (nc nw nf cc cw cf : Nat) (w : World) (hL : m.Lists w (.slice ac nc cc) (.slice aw nw cw) (.slice af nf cf)) (hS : Small m) :
    Calls Tryd.prog 50 #[.agg (Mq.row m (.slice ac nc cc) (.slice aw nw cw) (.slice af nf cf)).toArray] w fun e w' => ∃ l a c, e = .returned (.slice a l.length c) ∧ l = bdG m ∧ l.length ≤ 60000 ∧ OB w' w.heap.size a c l ∧ Below w.heap.size w w' := by
  obtain rfl : nc = m.cs.length := by have := slR_len hL.c; simpa using this
  obtain rfl : nw = m.ws.length := by have := slR_len hL.w; simpa using this
  obtain rfl : nf = m.fs.length := by have := slR_len hL.f; simpa using this
  have hb0 := Below.refl w.heap.size w
  have hS0 := hS.cl
  have hS1 := hS.wT
  have hS2 := hS.wP
  have hS3 := hS.us
  have hS4 := hS.pa
  have hS5 := hS.top
  have hS6 := hS.pay
  have hS7 := hS.wQ
  have hS8 := hS.q
  have hS9 := hS.k
  have hS10 := hS.cs
  have hS11 := hS.ws
  have hS12 := hS.fs
  refine fw_en 95 [(0, .agg (Mq.row m (.slice ac m.cs.length cc) (.slice aw m.ws.length cw) (.slice af m.fs.length cf)).toArray)] Tryd.func50 rfl Tryd.ntmps50 rfl ⟨rfl, trivial⟩ ?_
  refine fw_sq ?_
  refine fw_rg rfl ?_
  refine fw_bx rfl (cs := [.int .i64 m.k, .string m.cl, .bool m.clean, .int .i64 m.keep, .bool m.wI, .string m.wT, .string m.wP, .int .i64 m.wQ, .bool m.wR, .string m.us, .bool m.hu, .string m.pa, .bool m.hp, .bool m.pres, .int .i64 m.code, .slice ac m.cs.length cc, .bool m.dup, .int .i64 m.q, .bool m.re, .string m.top, .int .i64 m.id, .string m.pay, .slice aw m.ws.length cw, .slice af m.fs.length cf]) rfl ?_
  intro q1 W2 g5 s3 r4
  have := Nat.le_trans hb0.size g5
  have b6 := hb0.trans (s3.mono hb0.size)
  refine fw_pu rfl ?_
  refine fw_dt ?_
  refine fw_sq ?_
  refine fw_rg rfl ?_
  refine fw_pu rfl ?_
  refine fw_dt ?_
  refine fw_sq ?_
  refine fw_sq ?_
  refine fw_rg rfl ?_
  refine fw_pu rfl ?_
  refine fw_ld r4 rfl rfl ?_
  refine fw_dt ?_
  refine fw_bk ?_
  refine fw_sq ?_
  refine fw_rg rfl ?_
  iterate 2 refine fw_pu rfl ?_
  refine fw_dt ?_
  rcases Bool.eq_false_or_eq_true ((m.k == 1)) with hb_7 | hb_7
  · skip
    refine fw_cT rfl hb_7 ?_
    refine fw_sq ?_
    refine fw_rg rfl ?_
    refine fw_ld r4 rfl rfl ?_
    refine fw_ca Tryd.func74 rfl rfl rfl (connectBodyG m ac aw af _ _ _ cc cw cf W2 hS) ?_
    rintro _ VC ⟨lC, aC, cC, rfl, hlC, hnC, hoC, hbC⟩
    refine ⟨_, rfl, ?_⟩
    have b8 := b6.trans (hbC.mono b6.size)
    have r9 := r4.below hbC
    refine fw_pu rfl ?_
    refine fw_dt ?_
    refine fw_rt ?_
    refine fw_br ?_
    refine fw_tr ?_
    refine ⟨fun a h => ?_⟩
    exact ow_ret1 rfl h.df (h.g 2 rfl) ⟨_, _, _, rfl, by unfold bdG; simp [hb_7, hlC], hnC, own_mono hoC b6.size, b8⟩
  refine fw_cF rfl hb_7 ?_
  refine fw_sq ?_
  refine fw_rg rfl ?_
  iterate 2 refine fw_pu rfl ?_
  refine fw_dt ?_
  rcases Bool.eq_false_or_eq_true ((m.k == 2)) with hb_10 | hb_10
  · skip
    refine fw_cT rfl hb_10 ?_
    refine fw_sq ?_
    refine fw_hr (fun X => Below w.heap.size w X ∧ RowAt X q1 (Mq.row m (.slice ac m.cs.length cc) (.slice aw m.ws.length cw) (.slice af m.fs.length cf))) (by kernel_rfl) 11 rfl ?_
    intro W11 s12
    have b13 := b6.trans (s12.mono b6.size)
    have r14 := r4.below s12
    refine ⟨⟨b13, r14⟩, ?_⟩
    refine fw_tk 0 rfl rfl (by kernel_rfl) (fun _ _ _ _ _ h => h) ?_
    refine fw_tk 1 rfl rfl (by kernel_rfl) (fun _ _ _ _ _ h => h) ?_
    refine fw_tl 2 (fun _ h => h.2) rfl rfl rfl (by kernel_rfl) (fun _ _ _ _ _ h => h) ?_
    refine fw_tk 5 rfl rfl (by kernel_rfl) (fun _ _ _ _ _ h => h) ?_
    refine fw_tl 6 (fun _ h => h.2) rfl rfl rfl (by kernel_rfl) (fun _ _ _ _ _ h => h) ?_
    refine fw_tx 7 25 (B8 (b8I m.code)) rfl rfl rfl rfl (fun a h W hW => by obtain ⟨b13, r14⟩ := hW; exact (run_convOp (h.ev rfl) (cvI8 _ _))) (by kernel_rfl) (fun _ _ _ _ _ h => h) ?_
    refine fw_o1 3 (by kernel_rfl) ?_
    refine fw_oc rfl Tryd.func75 rfl rfl rfl ((flag_any m.pres 1 W11)) ?_
    rintro _ _ ⟨rfl, rfl⟩
    refine ⟨(.int .i64 (flg m.pres 1)), rfl, ?_⟩
    refine ⟨⟨b13, r14⟩, ?_⟩
    refine fw_tx 4 22 (B8 (b8I (flg m.pres 1))) rfl rfl rfl rfl (fun a h W hW => by obtain ⟨b13, r14⟩ := hW; exact (run_convOp (h.ev rfl) (cvI8 _ _))) (by kernel_rfl) (fun _ _ _ _ _ h => h) ?_
    refine fw_o1 8 (by kernel_rfl) ?_
    obtain ⟨B, hB⟩ : ∃ x, x = W11.heap.size := ⟨_, rfl⟩
    have : q1 < B := by rw [hB]; exact r14.2.2
    have hwB : w.heap.size ≤ B := by rw [hB]; exact b13.size
    have hBs : B ≤ W11.heap.size := Nat.le_of_eq hB
    have ho15 := ob_nil W11 B
    refine fw_oa rfl (t := 5) (u := fun q => .slice (some ⟨q, 0, none⟩) 2 2) 26 [B8 (b8I (flg m.pres 1)), B8 (b8I m.code)] rfl rfl rfl (fun a h => (bs8_2 _ (h.ev rfl) (h.ev rfl))) ?_
    intro q16 W17 g20 s18 r19
    have := Nat.le_trans b13.size g20
    have := r14.lt g20
    have hapq16 := ob_new ho15 g20
    have b21 := b13.trans (s18.mono b13.size)
    have r22 := r14.below s18
    have f23 := (below_own ho15 s18)
    have hBs := Nat.le_trans hBs s18.size
    refine ⟨⟨b21, r22⟩, ?_⟩
    refine fw_o1 9 (by kernel_rfl) ?_
    refine fw_ot rfl 27 rfl rfl rfl (fun a h => opTo_byt (l := ([] : List UInt8)) (ad := none) (c := 0) _ _ rfl (h.ev rfl) f23 (h.ev rfl) (slBB _ _ (b8I (flg m.pres 1)) (b8I m.code) r19) (by rw [nil_len]; omega) (by simp) hBs) ?_
    rintro _ V25 ⟨l24, a24, c24, rfl, hl24, hg24, ho24⟩
    have r26 := row_grew r22 hg24 (ob_off f23 (by omega))
    have r27 := row_grew r19 hg24 hapq16
    replace hapq16 := grew_off hg24 hapq16 r19.2.2
    have b28 := ob_low b21 f23 hg24 hwB (Nat.le_trans hwB hBs)
    have hBs := Nat.le_trans hBs hg24.1.size
    have hn24 : l24.length ≤ 1003 := by rw [hl24, List.length_append]; (try rw [nil_len]); first | (rw [bigv_length]; omega) | (rw [encS_len]; omega) | (rw [one_len]; omega) | (rw [two_len]; omega) | (rw [str_len]; omega) | (rw [mqtt_len]; omega)
    refine ⟨⟨b28, r26⟩, ?_⟩
    refine fw_tk 10 rfl rfl (by kernel_rfl) (fun _ _ _ _ _ h => h) ?_
    refine fw_ht (by kernel_rfl) ?_
    refine fw_rt ?_
    refine fw_br ?_
    refine fw_tr ?_
    refine ⟨fun a h => ?_⟩
    exact ow_ret1 rfl h.df (h.g 2 rfl) ⟨_, _, _, rfl, by unfold bdG; simp [hb_7, hb_10, hl24], by omega, own_mono ho24 hwB, b28⟩
  refine fw_cF rfl hb_10 ?_
  refine fw_sq ?_
  refine fw_rg rfl ?_
  iterate 2 refine fw_pu rfl ?_
  refine fw_dt ?_
  rcases Bool.eq_false_or_eq_true ((m.k == 3)) with hb_29 | hb_29
  · skip
    refine fw_cT rfl hb_29 ?_
    refine fw_sq ?_
    refine fw_rg rfl ?_
    iterate 2 refine fw_pu rfl ?_
    refine fw_ld r4 rfl rfl ?_
    obtain ⟨B, hB⟩ : ∃ x, x = W2.heap.size := ⟨_, rfl⟩
    have : q1 < B := by rw [hB]; exact r4.2.2
    have hwB : w.heap.size ≤ B := by rw [hB]; exact b6.size
    have hBs : B ≤ W2.heap.size := Nat.le_of_eq hB
    have ho30 := ob_nil W2 B
    refine fw_ca Tryd.func76 rfl rfl rfl (strPut (l := ([] : List UInt8)) (ad := none) (c := 0) m.top ho30 (by omega) (by rw [nil_len]; omega) hBs) ?_
    rintro _ V32 ⟨l31, a31, c31, rfl, hl31, hg31, ho31⟩
    refine ⟨_, rfl, ?_⟩
    have r33 := row_grew r4 hg31 (ob_off ho30 (by omega))
    have b34 := ob_low b6 ho30 hg31 hwB (Nat.le_trans hwB hBs)
    have hBs := Nat.le_trans hBs hg31.1.size
    have hn31 : l31.length ≤ 1003 := by rw [hl31, List.length_append]; (try rw [nil_len]); first | (rw [bigv_length]; omega) | (rw [encS_len]; omega) | (rw [one_len]; omega) | (rw [two_len]; omega) | (rw [str_len]; omega) | (rw [mqtt_len]; omega)
    refine fw_pu rfl ?_
    refine fw_dt ?_
    refine fw_sq ?_
    refine fw_sq ?_
    refine fw_rg rfl ?_
    refine fw_pu rfl ?_
    refine fw_ld r33 rfl rfl ?_
    refine fw_pu rfl ?_
    refine fw_dt ?_
    rcases Bool.eq_false_or_eq_true ((decide (0 < m.q))) with hb_35 | hb_35
    · skip
      refine fw_cT rfl hb_35 ?_
      refine fw_rg rfl ?_
      iterate 2 refine fw_pu rfl ?_
      refine fw_ld r33 rfl rfl ?_
      refine fw_ca Tryd.func77 rfl rfl rfl (numPut (l := l31) (ad := a31) (c := c31) m.id 2 ho31 (by decide) (by omega) hBs) ?_
      rintro _ V37 ⟨l36, a36, c36, rfl, hl36, hg36, ho36⟩
      refine ⟨_, rfl, ?_⟩
      have r38 := row_grew r33 hg36 (ob_off ho31 (by omega))
      have b39 := ob_low b34 ho31 hg36 hwB (Nat.le_trans hwB hBs)
      have hBs := Nat.le_trans hBs hg36.1.size
      have hn36 : l36.length ≤ 2006 := by rw [hl36, List.length_append]; (try rw [nil_len]); first | (rw [bigv_length]; omega) | (rw [encS_len]; omega) | (rw [one_len]; omega) | (rw [two_len]; omega) | (rw [str_len]; omega) | (rw [mqtt_len]; omega)
      refine fw_pu rfl ?_
      refine fw_dt ?_
      refine fw_sq ?_
      refine fw_rg rfl ?_
      iterate 2 refine fw_pu rfl ?_
      refine fw_ld r38 rfl rfl ?_
      refine fw_to 44 rfl rfl rfl (fun a h => opTo_str (l := l36) (ad := a36) (c := c36) _ _ rfl (h.ev rfl) ho36 (h.ev rfl) (by omega) (by omega) hBs) ?_
      rintro _ V41 ⟨l40, a40, c40, rfl, hl40, hg40, ho40⟩
      have r42 := row_grew r38 hg40 (ob_off ho36 (by omega))
      have b43 := ob_low b39 ho36 hg40 hwB (Nat.le_trans hwB hBs)
      have hBs := Nat.le_trans hBs hg40.1.size
      have hn40 : l40.length ≤ 3009 := by rw [hl40, List.length_append]; (try rw [nil_len]); first | (rw [bigv_length]; omega) | (rw [encS_len]; omega) | (rw [one_len]; omega) | (rw [two_len]; omega) | (rw [str_len]; omega) | (rw [mqtt_len]; omega)
      refine fw_pu rfl ?_
      refine fw_dt ?_
      refine fw_rt ?_
      refine fw_br ?_
      refine fw_tr ?_
      refine ⟨fun a h => ?_⟩
      exact ow_ret1 rfl h.df (h.g 2 rfl) ⟨_, _, _, rfl, by unfold bdG; simp [hb_7, hb_10, hb_29, hb_35, hl31, hl36, hl40], by omega, own_mono ho40 hwB, b43⟩
    refine fw_cF rfl hb_35 ?_
    refine fw_sk ?_
    refine fw_th ?_
    refine fw_sq ?_
    refine fw_rg rfl ?_
    iterate 2 refine fw_pu rfl ?_
    refine fw_ld r33 rfl rfl ?_
    refine fw_to 44 rfl rfl rfl (fun a h => opTo_str (l := l31) (ad := a31) (c := c31) _ _ rfl (h.ev rfl) ho31 (h.ev rfl) (by omega) (by omega) hBs) ?_
    rintro _ V45 ⟨l44, a44, c44, rfl, hl44, hg44, ho44⟩
    have r46 := row_grew r33 hg44 (ob_off ho31 (by omega))
    have b47 := ob_low b34 ho31 hg44 hwB (Nat.le_trans hwB hBs)
    have hBs := Nat.le_trans hBs hg44.1.size
    have hn44 : l44.length ≤ 2006 := by rw [hl44, List.length_append]; (try rw [nil_len]); first | (rw [bigv_length]; omega) | (rw [encS_len]; omega) | (rw [one_len]; omega) | (rw [two_len]; omega) | (rw [str_len]; omega) | (rw [mqtt_len]; omega)
    refine fw_pu rfl ?_
    refine fw_dt ?_
    refine fw_rt ?_
    refine fw_br ?_
    refine fw_tr ?_
    refine ⟨fun a h => ?_⟩
    exact ow_ret1 rfl h.df (h.g 2 rfl) ⟨_, _, _, rfl, by unfold bdG; simp [hb_7, hb_10, hb_29, hb_35, hl31, hl44], by omega, own_mono ho44 hwB, b47⟩
  refine fw_cF rfl hb_29 ?_
  refine fw_sq ?_
  refine fw_sq ?_
  refine fw_rg rfl ?_
  iterate 2 refine fw_pu rfl ?_
  refine fw_dt ?_
  rcases Bool.eq_false_or_eq_true ((m.k == 12)) with hb_48 | hb_48
  · skip
    refine fw_cT rfl hb_48 ?_
    refine fw_sk ?_
    refine fw_th ?_
    refine fw_cT rfl hb_48 ?_
    refine fw_sq ?_
    refine fw_rg rfl ?_
    refine fw_pu rfl ?_
    refine fw_dt ?_
    refine fw_rt ?_
    refine fw_br ?_
    refine fw_tr ?_
    refine ⟨fun a h => ?_⟩
    exact ow_ret1 rfl h.df (h.g 2 rfl) ⟨[], none, 0, rfl, by unfold bdG; simp [hb_7, hb_10, hb_29, hb_48], Nat.zero_le _, ob_nil _ _, b6⟩
  refine fw_cF rfl hb_48 ?_
  refine fw_sq ?_
  refine fw_rg rfl ?_
  iterate 2 refine fw_pu rfl ?_
  refine fw_dt ?_
  rcases Bool.eq_false_or_eq_true ((m.k == 13)) with hb_49 | hb_49
  · skip
    refine fw_cT rfl hb_49 ?_
    refine fw_sk ?_
    refine fw_th ?_
    refine fw_cT rfl hb_49 ?_
    refine fw_sq ?_
    refine fw_rg rfl ?_
    refine fw_pu rfl ?_
    refine fw_dt ?_
    refine fw_rt ?_
    refine fw_br ?_
    refine fw_tr ?_
    refine ⟨fun a h => ?_⟩
    exact ow_ret1 rfl h.df (h.g 2 rfl) ⟨[], none, 0, rfl, by unfold bdG; simp [hb_7, hb_10, hb_29, hb_48, hb_49], Nat.zero_le _, ob_nil _ _, b6⟩
  refine fw_cF rfl hb_49 ?_
  refine fw_rg rfl ?_
  iterate 2 refine fw_pu rfl ?_
  refine fw_dt ?_
  rcases Bool.eq_false_or_eq_true ((m.k == 14)) with hb_50 | hb_50
  · skip
    refine fw_cT rfl hb_50 ?_
    refine fw_sq ?_
    refine fw_rg rfl ?_
    refine fw_pu rfl ?_
    refine fw_dt ?_
    refine fw_rt ?_
    refine fw_br ?_
    refine fw_tr ?_
    refine ⟨fun a h => ?_⟩
    exact ow_ret1 rfl h.df (h.g 2 rfl) ⟨[], none, 0, rfl, by unfold bdG; simp [hb_7, hb_10, hb_29, hb_48, hb_49, hb_50], Nat.zero_le _, ob_nil _ _, b6⟩
  refine fw_cF rfl hb_50 ?_
  refine fw_sk ?_
  refine fw_bn ?_
  refine fw_th ?_
  refine fw_sq ?_
  refine fw_rg rfl ?_
  iterate 2 refine fw_pu rfl ?_
  refine fw_ld r4 rfl rfl ?_
  obtain ⟨B, hB⟩ : ∃ x, x = W2.heap.size := ⟨_, rfl⟩
  have : q1 < B := by rw [hB]; exact r4.2.2
  have hwB : w.heap.size ≤ B := by rw [hB]; exact b6.size
  have hBs : B ≤ W2.heap.size := Nat.le_of_eq hB
  have ho51 := ob_nil W2 B
  refine fw_ca Tryd.func77 rfl rfl rfl (numPut (l := ([] : List UInt8)) (ad := none) (c := 0) m.id 2 ho51 (by decide) (by rw [nil_len]; omega) hBs) ?_
  rintro _ V53 ⟨l52, a52, c52, rfl, hl52, hg52, ho52⟩
  refine ⟨_, rfl, ?_⟩
  have r54 := row_grew r4 hg52 (ob_off ho51 (by omega))
  have b55 := ob_low b6 ho51 hg52 hwB (Nat.le_trans hwB hBs)
  have hBs := Nat.le_trans hBs hg52.1.size
  have hn52 : l52.length ≤ 1003 := by rw [hl52, List.length_append]; (try rw [nil_len]); first | (rw [bigv_length]; omega) | (rw [encS_len]; omega) | (rw [one_len]; omega) | (rw [two_len]; omega) | (rw [str_len]; omega) | (rw [mqtt_len]; omega)
  refine fw_pu rfl ?_
  refine fw_dt ?_
  refine fw_sq ?_
  refine fw_sq ?_
  refine fw_rg rfl ?_
  refine fw_pu rfl ?_
  refine fw_ld r54 rfl rfl ?_
  iterate 2 refine fw_pu rfl ?_
  refine fw_dt ?_
  refine fw_bk ?_
  refine fw_lp (fun N K W => ∃ (iw : Nat) (liw : List UInt8) (aiw : Option Addr) (ciw : Nat), N = m.ws.length - iw ∧ iw ≤ m.ws.length ∧ liw = l52 ++ (m.ws.take iw).flatMap encW ∧ liw.length ≤ 1003 + iw * 2006 ∧ B ≤ W.heap.size ∧ K = [(1, .pointer (some ⟨q1, 0, none⟩)), (3, .slice aiw liw.length ciw), (54, .slice aw m.ws.length cw), (55, .int .i64 ((m.ws.length : Nat) : Int)), (56, .int .i64 ((iw : Nat) : Int))] ∧ Below w.heap.size w W ∧ RowAt W q1 (Mq.row m (.slice ac m.cs.length cc) (.slice aw m.ws.length cw) (.slice af m.fs.length cf)) ∧ OB W B aiw ciw liw) _ _ ⟨0, l52, a52, c52, rfl, Nat.zero_le _, (by simp), (by omega), hBs, rfl, b55, r54, ho52⟩ ⟨rfl, (by first | rfl | (simp only [Look, cond, Nat.beq]; first | rfl | (congr 2; first | rfl | omega | (push_cast; omega)) | (simp; try omega))), rfl, rfl, (by first | rfl | (simp only [Look, cond, Nat.beq]; first | rfl | (congr 2; first | rfl | omega | (push_cast; omega)) | (simp; try omega))), trivial⟩ ?_
  rintro N _ W56 ⟨iw, liw, aiw, ciw, rfl, hil, hliw, hlniw, hBs, rfl, bW56, rW56_0, gW56_0⟩
  intro K58 hK58
  refine fw_sq ?_
  refine fw_rg rfl ?_
  refine fw_pu rfl ?_
  refine fw_dt ?_
  refine fw_sq ?_
  rcases Bool.eq_false_or_eq_true ((decide (((iw : Nat) : Int) < ((m.ws.length : Nat) : Int)))) with hb_59 | hb_59
  · skip
    refine fw_cT rfl hb_59 ?_
    refine fw_sk ?_
    refine fw_th ?_
    refine fw_sq ?_
    refine fw_bk ?_
    refine fw_sq ?_
    have hiL : iw < m.ws.length := by have h := of_decide_eq_true hb_59; omega
    obtain ⟨x0, hx0⟩ : ∃ p, m.ws[iw]? = some p := ⟨_, List.getElem?_eq_getElem hiL⟩
    obtain ⟨bP, oP, haP, hbP, hcP⟩ := slR_at hL.w (i := iw) (q := rowWish x0) (by rw [List.getElem?_map, hx0]; rfl)
    have hsz := hS.wsf x0 (List.mem_of_getElem? hx0)
    refine fw_rg rfl ?_
    refine fw_ex 58 (.pointer (some ⟨bP, (oP + iw * 2), none⟩)) rfl rfl rfl (fun a h => (run_indexOp (h.ev rfl) (h.ev rfl) (by rw [haP]; exact idxWs _ _ _ _ _ hiL _))) ?_
    refine fw_ex 59 (.agg #[.string x0.f, .int .i64 x0.q]) rfl rfl rfl (fun a h => (run_loadOp (h.ev rfl) (ldW2 (fun j u hj => (Below.cell bW56 (p := ⟨bP, oP + iw * 2 + j, none⟩) hbP).trans (hcP j u hj))))) ?_
    refine fw_al (t := 93) (u := fun q => .pointer (some ⟨q, 0, none⟩)) 5 [.string { data := #[] }, .int .i64 0] rfl rfl rfl (fun a h => (run_allocOp (by simp [go_sem, Instr.alloc]))) ?_
    intro q60 W61 g64 s62 r63
    have := Nat.le_trans bW56.size g64
    have := rW56_0.lt g64
    have hapq60 := ob_new gW56_0 g64
    have b65 := bW56.trans (s62.mono bW56.size)
    have r66 := rW56_0.below s62
    have f67 := (below_own gW56_0 s62)
    have hBs := Nat.le_trans hBs s62.size
    refine fw_st r63 rfl rfl ?_
    intro W68 s69 r70
    have b71 := below_chg b65 s69 (by omega) b65.size
    have r72 := r66.chg s69 (by omega)
    have hBs := Nat.le_trans hBs s69.size
    have f73 := (ob_chg f67 s69 hapq60)
    refine fw_dt ?_
    refine fw_hr (fun X => Below w.heap.size w X ∧ RowAt X q1 (Mq.row m (.slice ac m.cs.length cc) (.slice aw m.ws.length cw) (.slice af m.fs.length cf)) ∧ RowAt X q60 [.string x0.f, .int .i64 x0.q]) (by kernel_rfl) 10 rfl ?_
    intro W74 s75
    have b76 := b71.trans (s75.mono b71.size)
    have r77 := r72.below s75
    have r78 := r70.below s75
    have f79 := (below_own f73 s75)
    have hBs := Nat.le_trans hBs s75.size
    refine ⟨⟨b76, r77, r78⟩, ?_⟩
    refine fw_tk 0 rfl rfl (by kernel_rfl) (fun _ _ _ _ _ h => h) ?_
    refine fw_tk 1 rfl rfl (by kernel_rfl) (fun _ _ _ _ _ h => h) ?_
    refine fw_tl 2 (fun _ h => h.2.2) rfl rfl rfl (by kernel_rfl) (fun _ _ _ _ _ h => h) ?_
    refine fw_tk 4 rfl rfl (by kernel_rfl) (fun _ _ _ _ _ h => h) ?_
    refine fw_tl 5 (fun _ h => h.2.2) rfl rfl rfl (by kernel_rfl) (fun _ _ _ _ _ h => h) ?_
    refine fw_tx 6 66 (B8 (b8I x0.q)) rfl rfl rfl rfl (fun a h W hW => by obtain ⟨b76, r77, r78⟩ := hW; exact (run_convOp (h.ev rfl) (cvI8 _ _))) (by kernel_rfl) (fun _ _ _ _ _ h => h) ?_
    refine fw_o2 3 7 (by kernel_rfl) ?_ ?_
    · skip
      refine fw_oc rfl Tryd.func76 rfl rfl rfl (strPut (l := liw) (ad := aiw) (c := ciw) x0.f f79 (by omega) (by omega) hBs) ?_
      rintro _ V81 ⟨l80, a80, c80, rfl, hl80, hg80, ho80⟩
      refine ⟨_, rfl, ?_⟩
      have r82 := row_grew r77 hg80 (ob_off f79 (by omega))
      have r83 := row_grew r78 hg80 hapq60
      replace hapq60 := grew_off hg80 hapq60 r78.2.2
      have b84 := ob_low b76 f79 hg80 hwB (Nat.le_trans hwB hBs)
      have hBs := Nat.le_trans hBs hg80.1.size
      have hn80 : l80.length ≤ 2006 + iw * 2006 := by rw [hl80, List.length_append]; (try rw [nil_len]); first | (rw [bigv_length]; omega) | (rw [encS_len]; omega) | (rw [one_len]; omega) | (rw [two_len]; omega) | (rw [str_len]; omega) | (rw [mqtt_len]; omega)
      refine ⟨⟨b84, r82, r83⟩, ?_⟩
      refine fw_o1 7 (by kernel_rfl) ?_
      refine fw_oa rfl (t := 5) (u := fun q => .slice (some ⟨q, 0, none⟩) 1 1) 67 [B8 (b8I x0.q)] rfl rfl rfl (fun a h => (bs8_1 _ (h.ev rfl))) ?_
      intro q85 W86 g89 s87 r88
      have := Nat.le_trans b84.size g89
      have := r82.lt g89
      have := r83.lt g89
      have hapq85 := ob_new ho80 g89
      have b90 := b84.trans (s87.mono b84.size)
      have r91 := r82.below s87
      have r92 := r83.below s87
      have f93 := (below_own ho80 s87)
      have hBs := Nat.le_trans hBs s87.size
      refine ⟨⟨b90, r91, r92⟩, ?_⟩
      refine fw_o1 8 (by kernel_rfl) ?_
      refine fw_ot rfl 68 rfl rfl rfl (fun a h => opTo_byt (l := l80) (ad := a80) (c := c80) _ _ rfl (h.ev rfl) f93 (h.ev rfl) (slB _ _ (b8I x0.q) r88) (by omega) (by simp) hBs) ?_
      rintro _ V95 ⟨l94, a94, c94, rfl, hl94, hg94, ho94⟩
      have r96 := row_grew r91 hg94 (ob_off f93 (by omega))
      have r97 := row_grew r92 hg94 hapq60
      have r98 := row_grew r88 hg94 hapq85
      replace hapq60 := grew_off hg94 hapq60 r92.2.2
      replace hapq85 := grew_off hg94 hapq85 r88.2.2
      have b99 := ob_low b90 f93 hg94 hwB (Nat.le_trans hwB hBs)
      have hBs := Nat.le_trans hBs hg94.1.size
      have hn94 : l94.length ≤ 3009 + iw * 2006 := by rw [hl94, List.length_append]; (try rw [nil_len]); first | (rw [bigv_length]; omega) | (rw [encS_len]; omega) | (rw [one_len]; omega) | (rw [two_len]; omega) | (rw [str_len]; omega) | (rw [mqtt_len]; omega)
      refine ⟨⟨b99, r96, r97⟩, ?_⟩
      refine fw_tk 9 rfl rfl (by kernel_rfl) (fun _ _ _ _ _ h => h) ?_
      refine fw_hz (by kernel_rfl) ?_
      refine fw_bn ?_
      refine fw_th ?_
      refine fw_rg rfl ?_
      refine fw_ex 69 (.int .i64 (((iw + 1) : Nat) : Int)) rfl rfl rfl (fun a h => (run_binOp (h.ev rfl) (h.ev rfl) (by simp [go_sem]) (addIw _ _ _ _ (by omega) (by omega) (by omega)))) ?_
      refine fw_pu rfl ?_
      refine fw_dn ?_
      exact fw_th (fw_gf (hK58 _ _ _ (by omega) ⟨(iw + 1), l94, a94, c94, rfl, hiL, (by rw [hl94, hl80, hliw, take_fm hx0]; simp [encW]), (by omega), hBs, rfl, b99, r96, ho94⟩) ⟨rfl, (by first | rfl | (simp only [Look, cond, Nat.beq]; first | rfl | (congr 2; first | rfl | omega | (push_cast; omega)) | (simp; try omega))), rfl, rfl, (by first | rfl | (simp only [Look, cond, Nat.beq]; first | rfl | (congr 2; first | rfl | omega | (push_cast; omega)) | (simp; try omega))), trivial⟩)
    refine fw_oa rfl (t := 5) (u := fun q => .slice (some ⟨q, 0, none⟩) 1 1) 67 [B8 (b8I x0.q)] rfl rfl rfl (fun a h => (bs8_1 _ (h.ev rfl))) ?_
    intro q100 W101 g104 s102 r103
    have := Nat.le_trans b76.size g104
    have := r77.lt g104
    have := r78.lt g104
    have hapq100 := ob_new f79 g104
    have b105 := b76.trans (s102.mono b76.size)
    have r106 := r77.below s102
    have r107 := r78.below s102
    have f108 := (below_own f79 s102)
    have hBs := Nat.le_trans hBs s102.size
    refine ⟨⟨b105, r106, r107⟩, ?_⟩
    refine fw_o1 3 (by kernel_rfl) ?_
    refine fw_oc rfl Tryd.func76 rfl rfl rfl (strPut (l := liw) (ad := aiw) (c := ciw) x0.f f108 (by omega) (by omega) hBs) ?_
    rintro _ V110 ⟨l109, a109, c109, rfl, hl109, hg109, ho109⟩
    refine ⟨_, rfl, ?_⟩
    have r111 := row_grew r106 hg109 (ob_off f108 (by omega))
    have r112 := row_grew r107 hg109 hapq60
    have r113 := row_grew r103 hg109 hapq100
    replace hapq60 := grew_off hg109 hapq60 r107.2.2
    replace hapq100 := grew_off hg109 hapq100 r103.2.2
    have b114 := ob_low b105 f108 hg109 hwB (Nat.le_trans hwB hBs)
    have hBs := Nat.le_trans hBs hg109.1.size
    have hn109 : l109.length ≤ 2006 + iw * 2006 := by rw [hl109, List.length_append]; (try rw [nil_len]); first | (rw [bigv_length]; omega) | (rw [encS_len]; omega) | (rw [one_len]; omega) | (rw [two_len]; omega) | (rw [str_len]; omega) | (rw [mqtt_len]; omega)
    refine ⟨⟨b114, r111, r112⟩, ?_⟩
    refine fw_o1 8 (by kernel_rfl) ?_
    refine fw_ot rfl 68 rfl rfl rfl (fun a h => opTo_byt (l := l109) (ad := a109) (c := c109) _ _ rfl (h.ev rfl) ho109 (h.ev rfl) (slB _ _ (b8I x0.q) r113) (by omega) (by simp) hBs) ?_
    rintro _ V116 ⟨l115, a115, c115, rfl, hl115, hg115, ho115⟩
    have r117 := row_grew r111 hg115 (ob_off ho109 (by omega))
    have r118 := row_grew r112 hg115 hapq60
    have r119 := row_grew r113 hg115 hapq100
    replace hapq60 := grew_off hg115 hapq60 r112.2.2
    replace hapq100 := grew_off hg115 hapq100 r113.2.2
    have b120 := ob_low b114 ho109 hg115 hwB (Nat.le_trans hwB hBs)
    have hBs := Nat.le_trans hBs hg115.1.size
    have hn115 : l115.length ≤ 3009 + iw * 2006 := by rw [hl115, List.length_append]; (try rw [nil_len]); first | (rw [bigv_length]; omega) | (rw [encS_len]; omega) | (rw [one_len]; omega) | (rw [two_len]; omega) | (rw [str_len]; omega) | (rw [mqtt_len]; omega)
    refine ⟨⟨b120, r117, r118⟩, ?_⟩
    refine fw_tk 9 rfl rfl (by kernel_rfl) (fun _ _ _ _ _ h => h) ?_
    refine fw_hz (by kernel_rfl) ?_
    refine fw_bn ?_
    refine fw_th ?_
    refine fw_rg rfl ?_
    refine fw_ex 69 (.int .i64 (((iw + 1) : Nat) : Int)) rfl rfl rfl (fun a h => (run_binOp (h.ev rfl) (h.ev rfl) (by simp [go_sem]) (addIw _ _ _ _ (by omega) (by omega) (by omega)))) ?_
    refine fw_pu rfl ?_
    refine fw_dn ?_
    exact fw_th (fw_gf (hK58 _ _ _ (by omega) ⟨(iw + 1), l115, a115, c115, rfl, hiL, (by rw [hl115, hl109, hliw, take_fm hx0]; simp [encW]), (by omega), hBs, rfl, b120, r117, ho115⟩) ⟨rfl, (by first | rfl | (simp only [Look, cond, Nat.beq]; first | rfl | (congr 2; first | rfl | omega | (push_cast; omega)) | (simp; try omega))), rfl, rfl, (by first | rfl | (simp only [Look, cond, Nat.beq]; first | rfl | (congr 2; first | rfl | omega | (push_cast; omega)) | (simp; try omega))), trivial⟩)
  refine fw_cF rfl hb_59 ?_
  refine fw_xt ?_
  refine fw_te ?_
  refine fw_te ?_
  refine fw_be ?_
  refine fw_th ?_
  refine fw_sq ?_
  refine fw_sq ?_
  have hiiw : iw = m.ws.length := by have h := of_decide_eq_false hb_59; omega
  rw [hiiw, List.take_length] at hliw
  have hniwx : liw.length ≤ 17051 := by omega
  refine fw_rg rfl ?_
  refine fw_pu rfl ?_
  refine fw_ld rW56_0 rfl rfl ?_
  iterate 2 refine fw_pu rfl ?_
  refine fw_dt ?_
  refine fw_bk ?_
  refine fw_lp (fun N K W => ∃ (ic : Nat) (lic : List UInt8) (aic : Option Addr) (cic : Nat), N = m.cs.length - ic ∧ ic ≤ m.cs.length ∧ lic = liw ++ (m.cs.take ic).map b8I ∧ lic.length ≤ 17051 + ic * 2006 ∧ B ≤ W.heap.size ∧ K = [(1, .pointer (some ⟨q1, 0, none⟩)), (3, .slice aic lic.length cic), (71, .slice ac m.cs.length cc), (72, .int .i64 ((m.cs.length : Nat) : Int)), (73, .int .i64 ((ic : Nat) : Int))] ∧ Below w.heap.size w W ∧ RowAt W q1 (Mq.row m (.slice ac m.cs.length cc) (.slice aw m.ws.length cw) (.slice af m.fs.length cf)) ∧ OB W B aic cic lic) _ _ ⟨0, liw, aiw, ciw, rfl, Nat.zero_le _, (by simp), (by omega), hBs, rfl, bW56, rW56_0, gW56_0⟩ ⟨rfl, (by first | rfl | (simp only [Look, cond, Nat.beq]; first | rfl | (congr 2; first | rfl | omega | (push_cast; omega)) | (simp; try omega))), rfl, rfl, (by first | rfl | (simp only [Look, cond, Nat.beq]; first | rfl | (congr 2; first | rfl | omega | (push_cast; omega)) | (simp; try omega))), trivial⟩ ?_
  rintro N _ W121 ⟨ic, lic, aic, cic, rfl, hil, hlic, hlnic, hBs, rfl, bW121, rW121_0, gW121_0⟩
  intro K123 hK123
  refine fw_sq ?_
  refine fw_rg rfl ?_
  refine fw_pu rfl ?_
  refine fw_dt ?_
  refine fw_sq ?_
  rcases Bool.eq_false_or_eq_true ((decide (((ic : Nat) : Int) < ((m.cs.length : Nat) : Int)))) with hb_124 | hb_124
  · skip
    refine fw_cT rfl hb_124 ?_
    refine fw_sk ?_
    refine fw_th ?_
    refine fw_sq ?_
    refine fw_bk ?_
    refine fw_sq ?_
    have hiL : ic < m.cs.length := by have h := of_decide_eq_true hb_124; omega
    obtain ⟨x0, hx0⟩ : ∃ p, m.cs[ic]? = some p := ⟨_, List.getElem?_eq_getElem hiL⟩
    obtain ⟨bP, oP, haP, hbP, hcP⟩ := slR_at hL.c (i := ic) (q := cn x0) (by rw [List.getElem?_map, hx0]; rfl)
    refine fw_rg rfl ?_
    refine fw_ex 75 (.pointer (some ⟨bP, (oP + ic * 1), none⟩)) rfl rfl rfl (fun a h => (run_indexOp (h.ev rfl) (h.ev rfl) (by rw [haP]; exact idxIs _ _ _ _ _ hiL _))) ?_
    refine fw_ex 76 (.int .i64 x0) rfl rfl rfl (fun a h => (run_loadOp (h.ev rfl) (ldI1 ((Below.cell bW121 (p := ⟨bP, oP + ic * 1, none⟩) hbP).trans (hcP 0 _ rfl))))) ?_
    refine fw_pu rfl ?_
    refine fw_dt ?_
    refine fw_rg rfl ?_
    iterate 2 refine fw_pu rfl ?_
    refine fw_ex 79 (B8 (b8I x0)) rfl rfl rfl (fun a h => (run_convOp (h.ev rfl) (cvI8 _ _))) ?_
    refine fw_al (t := 5) (u := fun q => .slice (some ⟨q, 0, none⟩) 1 1) 80 [B8 (b8I x0)] rfl rfl rfl (fun a h => (bs8_1 _ (h.ev rfl))) ?_
    intro q125 W126 g129 s127 r128
    have := Nat.le_trans bW121.size g129
    have := rW121_0.lt g129
    have hapq125 := ob_new gW121_0 g129
    have b130 := bW121.trans (s127.mono bW121.size)
    have r131 := rW121_0.below s127
    have f132 := (below_own gW121_0 s127)
    have hBs := Nat.le_trans hBs s127.size
    refine fw_to 81 rfl rfl rfl (fun a h => opTo_byt (l := lic) (ad := aic) (c := cic) _ _ rfl (h.ev rfl) f132 (h.ev rfl) (slB _ _ (b8I x0) r128) (by omega) (by simp) hBs) ?_
    rintro _ V134 ⟨l133, a133, c133, rfl, hl133, hg133, ho133⟩
    have r135 := row_grew r131 hg133 (ob_off f132 (by omega))
    have r136 := row_grew r128 hg133 hapq125
    replace hapq125 := grew_off hg133 hapq125 r128.2.2
    have b137 := ob_low b130 f132 hg133 hwB (Nat.le_trans hwB hBs)
    have hBs := Nat.le_trans hBs hg133.1.size
    have hn133 : l133.length ≤ 18054 + ic * 2006 := by rw [hl133, List.length_append]; (try rw [nil_len]); first | (rw [bigv_length]; omega) | (rw [encS_len]; omega) | (rw [one_len]; omega) | (rw [two_len]; omega) | (rw [str_len]; omega) | (rw [mqtt_len]; omega)
    refine fw_pu rfl ?_
    refine fw_dn ?_
    refine fw_bn ?_
    refine fw_th ?_
    refine fw_rg rfl ?_
    refine fw_ex 82 (.int .i64 (((ic + 1) : Nat) : Int)) rfl rfl rfl (fun a h => (run_binOp (h.ev rfl) (h.ev rfl) (by simp [go_sem]) (addIw _ _ _ _ (by omega) (by omega) (by omega)))) ?_
    refine fw_pu rfl ?_
    refine fw_dn ?_
    exact fw_th (fw_gf (hK123 _ _ _ (by omega) ⟨(ic + 1), l133, a133, c133, rfl, hiL, (by rw [hl133, hlic, take_mp hx0]; simp [List.append_assoc]), (by omega), hBs, rfl, b137, r135, ho133⟩) ⟨rfl, (by first | rfl | (simp only [Look, cond, Nat.beq]; first | rfl | (congr 2; first | rfl | omega | (push_cast; omega)) | (simp; try omega))), rfl, rfl, (by first | rfl | (simp only [Look, cond, Nat.beq]; first | rfl | (congr 2; first | rfl | omega | (push_cast; omega)) | (simp; try omega))), trivial⟩)
  refine fw_cF rfl hb_124 ?_
  refine fw_xt ?_
  refine fw_te ?_
  refine fw_te ?_
  refine fw_be ?_
  refine fw_th ?_
  refine fw_sq ?_
  refine fw_sq ?_
  have hiic : ic = m.cs.length := by have h := of_decide_eq_false hb_124; omega
  rw [hiic, List.take_length] at hlic
  have hnicx : lic.length ≤ 33099 := by omega
  refine fw_rg rfl ?_
  refine fw_pu rfl ?_
  refine fw_ld rW121_0 rfl rfl ?_
  iterate 2 refine fw_pu rfl ?_
  refine fw_dt ?_
  refine fw_bk ?_
  refine fw_lp (fun N K W => ∃ (jf : Nat) (ljf : List UInt8) (ajf : Option Addr) (cjf : Nat), N = m.fs.length - jf ∧ jf ≤ m.fs.length ∧ ljf = lic ++ (m.fs.take jf).flatMap encS ∧ ljf.length ≤ 33099 + jf * 2006 ∧ B ≤ W.heap.size ∧ K = [(3, .slice ajf ljf.length cjf), (84, .slice af m.fs.length cf), (85, .int .i64 ((m.fs.length : Nat) : Int)), (86, .int .i64 ((jf : Nat) : Int))] ∧ Below w.heap.size w W ∧ RowAt W q1 (Mq.row m (.slice ac m.cs.length cc) (.slice aw m.ws.length cw) (.slice af m.fs.length cf)) ∧ OB W B ajf cjf ljf) _ _ ⟨0, lic, aic, cic, rfl, Nat.zero_le _, (by simp), (by omega), hBs, rfl, bW121, rW121_0, gW121_0⟩ ⟨(by first | rfl | (simp only [Look, cond, Nat.beq]; first | rfl | (congr 2; first | rfl | omega | (push_cast; omega)) | (simp; try omega))), rfl, rfl, (by first | rfl | (simp only [Look, cond, Nat.beq]; first | rfl | (congr 2; first | rfl | omega | (push_cast; omega)) | (simp; try omega))), trivial⟩ ?_
  rintro N _ W138 ⟨jf, ljf, ajf, cjf, rfl, hil, hljf, hlnjf, hBs, rfl, bW138, rW138_0, gW138_0⟩
  intro K140 hK140
  refine fw_sq ?_
  refine fw_rg rfl ?_
  refine fw_pu rfl ?_
  refine fw_dt ?_
  refine fw_sq ?_
  rcases Bool.eq_false_or_eq_true ((decide (((jf : Nat) : Int) < ((m.fs.length : Nat) : Int)))) with hb_141 | hb_141
  · skip
    refine fw_cT rfl hb_141 ?_
    refine fw_sk ?_
    refine fw_th ?_
    refine fw_sq ?_
    refine fw_bk ?_
    refine fw_sq ?_
    have hiL : jf < m.fs.length := by have h := of_decide_eq_true hb_141; omega
    obtain ⟨x0, hx0⟩ : ∃ p, m.fs[jf]? = some p := ⟨_, List.getElem?_eq_getElem hiL⟩
    obtain ⟨bP, oP, haP, hbP, hcP⟩ := slR_at hL.f (i := jf) (q := cs1 x0) (by rw [List.getElem?_map, hx0]; rfl)
    have hsz := hS.fsf x0 (List.mem_of_getElem? hx0)
    refine fw_rg rfl ?_
    refine fw_ex 88 (.pointer (some ⟨bP, (oP + jf * 1), none⟩)) rfl rfl rfl (fun a h => (run_indexOp (h.ev rfl) (h.ev rfl) (by rw [haP]; exact idxSs _ _ _ _ _ hiL _))) ?_
    refine fw_ex 89 (.string x0) rfl rfl rfl (fun a h => (run_loadOp (h.ev rfl) (ldS1 ((Below.cell bW138 (p := ⟨bP, oP + jf * 1, none⟩) hbP).trans (hcP 0 _ rfl))))) ?_
    refine fw_pu rfl ?_
    refine fw_dt ?_
    refine fw_rg rfl ?_
    iterate 2 refine fw_pu rfl ?_
    refine fw_ca Tryd.func76 rfl rfl rfl (strPut (l := ljf) (ad := ajf) (c := cjf) x0 gW138_0 (by omega) (by omega) hBs) ?_
    rintro _ V143 ⟨l142, a142, c142, rfl, hl142, hg142, ho142⟩
    refine ⟨_, rfl, ?_⟩
    have r144 := row_grew rW138_0 hg142 (ob_off gW138_0 (by omega))
    have b145 := ob_low bW138 gW138_0 hg142 hwB (Nat.le_trans hwB hBs)
    have hBs := Nat.le_trans hBs hg142.1.size
    have hn142 : l142.length ≤ 34102 + jf * 2006 := by rw [hl142, List.length_append]; (try rw [nil_len]); first | (rw [bigv_length]; omega) | (rw [encS_len]; omega) | (rw [one_len]; omega) | (rw [two_len]; omega) | (rw [str_len]; omega) | (rw [mqtt_len]; omega)
    refine fw_pu rfl ?_
    refine fw_dn ?_
    refine fw_bn ?_
    refine fw_th ?_
    refine fw_rg rfl ?_
    refine fw_ex 93 (.int .i64 (((jf + 1) : Nat) : Int)) rfl rfl rfl (fun a h => (run_binOp (h.ev rfl) (h.ev rfl) (by simp [go_sem]) (addIw _ _ _ _ (by omega) (by omega) (by omega)))) ?_
    refine fw_pu rfl ?_
    refine fw_dn ?_
    exact fw_th (fw_gf (hK140 _ _ _ (by omega) ⟨(jf + 1), l142, a142, c142, rfl, hiL, (by rw [hl142, hljf, take_fm hx0]; simp [List.append_assoc]), (by omega), hBs, rfl, b145, r144, ho142⟩) ⟨(by first | rfl | (simp only [Look, cond, Nat.beq]; first | rfl | (congr 2; first | rfl | omega | (push_cast; omega)) | (simp; try omega))), rfl, rfl, (by first | rfl | (simp only [Look, cond, Nat.beq]; first | rfl | (congr 2; first | rfl | omega | (push_cast; omega)) | (simp; try omega))), trivial⟩)
  refine fw_cF rfl hb_141 ?_
  refine fw_xt ?_
  refine fw_te ?_
  refine fw_te ?_
  refine fw_be ?_
  refine fw_th ?_
  refine fw_sq ?_
  have hijf : jf = m.fs.length := by have h := of_decide_eq_false hb_141; omega
  rw [hijf, List.take_length] at hljf
  have hnjfx : ljf.length ≤ 49147 := by omega
  refine fw_rg rfl ?_
  iterate 2 refine fw_pu rfl ?_
  refine fw_dt ?_
  refine fw_rt ?_
  refine ⟨fun a h => ?_⟩
  exact ow_ret1 rfl h.df (h.g 2 rfl) ⟨_, _, _, rfl, by unfold bdG; simp [hb_7, hb_10, hb_29, hb_48, hb_49, hb_50, hl52, hliw, hlic, hljf], by omega, own_mono gW138_0 hwB, bW138⟩
end Go.Proofs.YtpgnlhfokffioaaDoor
