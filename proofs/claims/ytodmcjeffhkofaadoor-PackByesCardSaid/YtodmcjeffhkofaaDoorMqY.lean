/-
  Packets: small laws for the walk of a kind.
-/
import Derived.Test.YtodmcjeffhkofaaDoorMqX
namespace Go.Proofs.YtodmcjeffhkofaaDoor
open Go.RowKit
theorem num18_any (n : Int) (w : World) : Calls Tryd.prog 26 #[.int .i64 n] w fun e w' => e = .returned (.int .i64 n) ∧ w = w' := by
  go_enter Tryd.func26, Tryd.ntmps26
  go_wp2
  go_ret
  exact ⟨rfl, rfl⟩
theorem run_indexAsk (ao : Option Addr) (b off n cap k : Nat) (hao : ao = some ⟨b, off, none⟩) (hk : k < n) (w : World) : (Instr.indexAt 22 (.slice ao n cap) (.int .i64 (k : Int))).run Tryd.prog w = .ok (.pointer (some ⟨b, off + k * 25, none⟩)) w := by
  subst hao
  have h2 : ¬ n ≤ k := by omega
  simp [go_sem, Instr.indexAt, h2]
theorem strAdd (s t : ByteArray) (w : World) (h : s.size + t.size ≤ 9223372036854775807) : (binOp .add 9 (.string s) (.string t)).run Tryd.prog w = .ok (.string (s ++ t)) w := by
  simp [go_sem, h]
theorem intInc (n : Int) (w : World) : (binOp .add 3 (.int .i64 n) (.int .i64 1)).run Tryd.prog w = .ok (.int .i64 (IntKind.i64.wrap (n + 1))) w := by
  simp [go_sem]
theorem shrU8 (x : UInt8) (w : World) : (binOp .shr 5 (.int .u8 (x.toNat : Int)) (.int .u64 4)).run Tryd.prog w = .ok (.int .u8 ((x.toNat : Int) / 16)) w := by
  have := x.toNat_lt
  simp [go_sem]
theorem convI8 (j : Nat) (hj : j < 16) (w : World) : (convert 3 5 (.int .i64 (j : Int))).run Tryd.prog w = .ok (.int .u8 ((UInt8.ofNat j).toNat : Int)) w := by
  have h : ((UInt8.ofNat j).toNat : Int) = (j : Int) := by simp only [UInt8.toNat_ofNat']; omega
  rw [h]
  simp [go_sem, IntKind.wrap, IntKind.bits, IntKind.signed]; omega
theorem xorU8 (x y : UInt8) (w : World) : (binOp .xor 5 (.int .u8 (x.toNat : Int)) (.int .u8 (y.toNat : Int))).run Tryd.prog w = .ok (.int .u8 ((x ^^^ y).toNat : Int)) w := by
  have hx := x.toNat_lt; have hy := y.toNat_lt
  have hz : x.toNat ^^^ y.toNat < 2 ^ 8 := Nat.xor_lt_two_pow (by omega) (by omega)
  have h1 : (BitVec.ofInt 8 (x.toNat : Int)).toNat = x.toNat := by simp
  have h2 : (BitVec.ofInt 8 (y.toNat : Int)).toNat = y.toNat := by simp
  have h : bits .xor .u8 (x.toNat : Int) (y.toNat : Int) = ((x ^^^ y).toNat : Int) := by
    show IntKind.wrap .u8 (((BitVec.ofInt 8 (x.toNat : Int) ^^^ BitVec.ofInt 8 (y.toNat : Int)).toNat : Nat) : Int) = _
    rw [BitVec.toNat_xor, h1, h2, UInt8.toNat_xor]
    simp [IntKind.wrap, IntKind.bits, IntKind.signed]; omega
  simp [go_sem, h]
theorem run_buildInt1 {ρ : Operand → Value} {d : Option Tmp} {ty : TypeId} {pos : String} {af : Array Edge} {g : Option (Nat × Bool)} {x : Operand} {n : Int} {w : World} (hx : ρ x = .int .i64 n) :
    (execOp ρ ⟨d, .buildSlice 26 1 #[(0, x)], ty, pos, af, g⟩).run Tryd.prog w = .ok (.value (.slice (some ⟨w.heap.size, 0, none⟩) 1 1)) (w.alloc (.cells #[.int .i64 n] 3)) := by
  simp [execOp, hx, go_sem, Instr.buildSlice]
theorem run_buildStr1 {ρ : Operand → Value} {d : Option Tmp} {ty : TypeId} {pos : String} {af : Array Edge} {g : Option (Nat × Bool)} {x : Operand} {n : ByteArray} {w : World} (hx : ρ x = .string n) :
    (execOp ρ ⟨d, .buildSlice 28 1 #[(0, x)], ty, pos, af, g⟩).run Tryd.prog w = .ok (.value (.slice (some ⟨w.heap.size, 0, none⟩) 1 1)) (w.alloc (.cells #[.string n] 9)) := by
  simp [execOp, hx, go_sem, Instr.buildSlice]
theorem run_buildWish1 {ρ : Operand → Value} {d : Option Tmp} {ty : TypeId} {pos : String} {af : Array Edge} {g : Option (Nat × Bool)} {x : Operand} {n : ByteArray} {q : Int} {w : World} (hx : ρ x = .agg #[.string n, .int .i64 q]) :
    (execOp ρ ⟨d, .buildSlice 27 1 #[(0, x)], ty, pos, af, g⟩).run Tryd.prog w = .ok (.value (.slice (some ⟨w.heap.size, 0, none⟩) 1 1)) (w.alloc (.cells #[.string n, .int .i64 q] 93)) := by
  simp [execOp, hx, go_sem, Instr.buildSlice]
theorem lists_open {W : World} {m : Mq} {vc vw vf : Value} (h : m.Lists W vc vw vf) : ∃ ac nc cc aw nw cw af nf cf, vc = .slice ac nc cc ∧ vw = .slice aw nw cw ∧ vf = .slice af nf cf := by
  obtain ⟨a, b, h1, -⟩ := h.c
  obtain ⟨c, d, h2, -⟩ := h.w
  obtain ⟨e, f, h3, -⟩ := h.f
  exact ⟨a, _, b, c, _, d, e, _, f, h1, h2, h3⟩
theorem flipB_len (l : List UInt8) (j : UInt8) : (flipB l j).length = l.length := by cases l <;> rfl
theorem sl_of_row {W : World} {g cap n : Nat} {l : List UInt8} (h : RowAt W g (l.map B8)) (hn : n = l.length) (hc : n ≤ cap) (hm : cap ≤ maxLen) : Sl W (.slice (some ⟨g, 0, none⟩) n cap) l := by
  subst hn
  exact ⟨_, cap, rfl, hc, hm, by simp, fun _ => ⟨g, 0, rfl, h.2.2, fun i x hx => by rw [Nat.zero_add]; exact h.1 i _ (by rw [List.getElem?_map, hx]; rfl)⟩⟩
theorem row_flip {W : World} {g : Nat} {l : List UInt8} {x : UInt8} {t : List UInt8} {j : UInt8} (h : RowAt W g (l.map B8)) (he : l = x :: t) : RowAt (W.setCell ⟨g, 0, none⟩ (.int .u8 ((x ^^^ j).toNat : Int))) g ((flipB l j).map B8) := by
  subst he
  exact h.set1 0 _ (by simp)
theorem copy_open {e : Ending} {w X : World} {B : Nat} {l : List UInt8} (hl : l ≠ []) (h : ∃ v, e = .returned v ∧ Below w.heap.size w X ∧ X.ownsRow B 5 1 v l.length (l.map B8)) : ∃ v, e = .returned v ∧ ∃ g cap, v = .slice (some ⟨g, 0, none⟩) l.length cap ∧ Below w.heap.size w X ∧ RowAt X g (l.map B8) ∧ B ≤ g ∧ l.length ≤ cap ∧ cap ≤ maxLen := by
  obtain ⟨v, he, hb, ho⟩ := h
  rcases ho.2 with ⟨rfl, h0⟩ | ⟨g, cap, cur, rfl, hbg, hh, hle, hcap, hsz, htake⟩
  · exact (hl (List.eq_nil_of_length_eq_zero h0)).elim
  · refine ⟨_, he, g, cap, rfl, hb, ⟨fun j u hj => ?_, fun j => ?_, ?_⟩, hbg, hle, hcap⟩
    · have h3 : cur.toList[j]? = some u := by
        rw [← htake, List.getElem?_take] at hj
        split at hj
        · exact hj
        · cases hj
      simp only [World.cell?, hh, Option.isSome_none, Bool.false_eq_true, if_false]
      rw [← h3]; simp
    · unfold World.frozen?; rw [hh]; simp
    · rcases Nat.lt_or_ge g X.heap.size with h | h
      · exact h
      · rw [Array.getElem?_eq_none h] at hh; simp at hh
theorem MqOwn.set1 {W : World} {B q j : Nat} {u : Value} {m : Mq} {vc vw vf : Value} (h : MqOwn W B m vc vw vf) (hc : ∀ k, vc.ownBlock = some k → k ≠ q) (hw : ∀ k, vw.ownBlock = some k → k ≠ q) (hf : ∀ k, vf.ownBlock = some k → k ≠ q) : MqOwn (W.setCell ⟨q, j, none⟩ u) B m vc vw vf :=
  ⟨own_set1 h.c fun hk => hc _ hk rfl, own_set1 h.w fun hk => hw _ hk rfl, own_set1 h.f fun hk => hf _ hk rfl, h.cw, h.cf, h.wf⟩
theorem grew_ne {W W' : World} {v v' : Value} {q : Nat} (hg : Grew W W' v v') (h : ∀ k, v.ownBlock = some k → k ≠ q) (hq : q < W.heap.size) : ∀ k, v'.ownBlock = some k → k ≠ q := by
  intro k hk
  rcases hg.2 with h1 | ⟨k', h1, hle⟩
  · exact h k (h1.symm.trans hk)
  · rw [hk] at h1; injection h1 with h1; omega
theorem own_ne {w : World} {base e size n q : Nat} {v : Value} {xs : List Value} (h : w.ownsRow base e size v n xs) (hq : w.heap.size ≤ q) : ∀ k, v.ownBlock = some k → k ≠ q := fun k hk => by have := own_lt h hk; omega
section
variable {m : Mq} (h : m.Near 3000)
include h
theorem near_id (x : Int) : ({ m with id := x } : Mq).Near 4000 := by have g := h.mono (show 3000 ≤ 4000 by decide); exact ⟨g.cl, g.wT, g.wP, g.us, g.pa, g.cs, g.top, g.pay, g.ws, g.fs, g.wsf, g.fsf⟩
theorem near_wQ (x : Int) : ({ m with wQ := x } : Mq).Near 4000 := by have g := h.mono (show 3000 ≤ 4000 by decide); exact ⟨g.cl, g.wT, g.wP, g.us, g.pa, g.cs, g.top, g.pay, g.ws, g.fs, g.wsf, g.fsf⟩
theorem near_pres (x : Bool) : ({ m with pres := x } : Mq).Near 4000 := by have g := h.mono (show 3000 ≤ 4000 by decide); exact ⟨g.cl, g.wT, g.wP, g.us, g.pa, g.cs, g.top, g.pay, g.ws, g.fs, g.wsf, g.fsf⟩
theorem near_top (x : UInt8) : ({ m with top := m.top ++ ⟨#[x]⟩ } : Mq).Near 4000 := by
  have g := h.mono (show 3000 ≤ 4000 by decide)
  exact ⟨g.cl, g.wT, g.wP, g.us, g.pa, g.cs, by have := h.top; show (m.top ++ ⟨#[x]⟩).size ≤ 4000; rw [ByteArray.size_append]; show m.top.size + 1 ≤ 4000; omega, g.pay, g.ws, g.fs, g.wsf, g.fsf⟩
theorem near_pa (x : UInt8) : ({ m with pa := m.pa ++ ⟨#[x]⟩ } : Mq).Near 4000 := by
  have g := h.mono (show 3000 ≤ 4000 by decide)
  exact ⟨g.cl, g.wT, g.wP, g.us, by have := h.pa; show (m.pa ++ ⟨#[x]⟩).size ≤ 4000; rw [ByteArray.size_append]; show m.pa.size + 1 ≤ 4000; omega, g.cs, g.top, g.pay, g.ws, g.fs, g.wsf, g.fsf⟩
theorem near_cs (x : Int) : ({ m with cs := m.cs ++ [x] } : Mq).Near 4000 := by
  have g := h.mono (show 3000 ≤ 4000 by decide)
  exact ⟨g.cl, g.wT, g.wP, g.us, g.pa, by have := h.cs; show (m.cs ++ [x]).length ≤ 4000; rw [List.length_append]; show m.cs.length + 1 ≤ 4000; omega, g.top, g.pay, g.ws, g.fs, g.wsf, g.fsf⟩
theorem near_ws (q : Int) : ({ m with ws := m.ws ++ [⟨E0, q⟩] } : Mq).Near 4000 := by
  have g := h.mono (show 3000 ≤ 4000 by decide)
  exact ⟨g.cl, g.wT, g.wP, g.us, g.pa, g.cs, g.top, g.pay, by have := h.ws; show (m.ws ++ [_]).length ≤ 4000; rw [List.length_append]; show m.ws.length + 1 ≤ 4000; omega, g.fs, fun s hs => by
    rcases List.mem_append.1 hs with h1 | h1
    · exact g.wsf s h1
    · obtain rfl : s = ⟨E0, q⟩ := by simpa using h1
      exact Nat.zero_le _, g.fsf⟩
theorem near_fs (x : UInt8) : ({ m with fs := m.fs ++ [⟨#[x]⟩] } : Mq).Near 4000 := by
  have g := h.mono (show 3000 ≤ 4000 by decide)
  exact ⟨g.cl, g.wT, g.wP, g.us, g.pa, g.cs, g.top, g.pay, g.ws, by have := h.fs; show (m.fs ++ [_]).length ≤ 4000; rw [List.length_append]; show m.fs.length + 1 ≤ 4000; omega, g.wsf, fun s hs => by
    rcases List.mem_append.1 hs with h1 | h1
    · exact g.fsf s h1
    · obtain rfl : s = ⟨#[x]⟩ := by simpa using h1
      have h9 : (1 : Nat) ≤ 4000 := by decide
      exact h9⟩
end
end Go.Proofs.YtodmcjeffhkofaaDoor
