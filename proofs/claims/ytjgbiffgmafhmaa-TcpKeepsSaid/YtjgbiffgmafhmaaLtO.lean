/-
  The law TcpKeeps.
-/
import Derived.Test.YtjgbiffgmafhmaaLtOC
import Derived.Test.YtjgbiffgmafhmaaLtOC
import Derived.Test.YtjgbiffgmafhmaaLtOReS
import Derived.Test.YtjgbiffgmafhmaaLtOReK
namespace Go.Proofs.Ytjgbiffgmafhmaa
open Go.RowKit Go.Lib
theorem buf_keep {n sq : Int} {L : List EP} {D : List UInt8} (h : bufB n L = true) : bufB (addNext n L sq D) (addParts n L sq D) = true := by
  have hn : 0 ≤ n ∧ n < 4294967296 := by unfold bufB at h; rw [Bool.and_eq_true, decide_eq_true_eq] at h; omega
  cases hf : addFits n L sq D with
  | false => unfold addNext addParts; rw [hf]; exact h
  | true =>
    have hlen : (addW n L sq D).length = 2048 := addW_len _ _ _ _
    have hp : partsL (addW n L sq D) 2048 = scanP (toldN (addW n L sq D)) none ((addW n L sq D).drop (toldN (addW n L sq D))) := by rw [← hlen, parts_scan]
    have hle := toldN_le (addW n L sq D)
    have hl8 : (partsL (addW n L sq D) 2048).length ≤ 8 := by unfold addFits at hf; rw [decide_eq_true_eq] at hf; exact hf
    have hok : okR (toldN (addW n L sq D)) (partsL (addW n L sq D) 2048) = true := by
      rw [hp]
      refine scan_ok _ _ _ _ (by rw [List.length_drop]; omega) (fun _ => ⟨Nat.le_refl _, .inr fun x hx => ?_⟩) (fun _ e => by cases e)
      rw [List.getElem?_drop, Nat.add_zero] at hx
      have := told_end hx
      cases this
    have hge := okR_ge _ _ hok
    have e1 : addNext n L sq D = addv n (toldN (addW n L sq D)) := by unfold addNext; rw [hf]; rfl
    have e2 : addParts n L sq D = (shiftR (toldN (addW n L sq D)) (partsL (addW n L sq D) 2048)).map (toP (addv n (toldN (addW n L sq D)))) := by
      rw [shift_toP hge]; unfold addParts addP; rw [hf]; rfl
    rw [e1, e2]
    have h0 := shift_ok (toldN (addW n L sq D)) _ _ (Nat.le_refl _) hok
    rw [Nat.sub_self] at h0
    exact okR_bufB (addv_bd _ _) h0 (by unfold shiftR; rw [List.length_map]; exact hl8)
/-- A connection's numbers. -/
structure OkP (c : EC) : Prop where
  id : 0 ≤ c.link ∧ c.link ≤ 1099511627776 ∧ 0 ≤ c.ip ∧ c.ip < 4294967296 ∧ 0 ≤ c.pp ∧ c.pp < 65536 ∧ 0 ≤ c.po ∧ c.po < 65536
  st : 0 ≤ c.st ∧ c.st ≤ 8
  una : 0 ≤ c.una ∧ c.una < 4294967296
  nxt : 0 ≤ c.nxt ∧ c.nxt < 4294967296
  win : 0 ≤ c.win ∧ c.win < 65536
  out : c.out.length ≤ 8192
  buf : bufB c.rn c.ps = true
  tm : tv c.tm = true
/-- Its state. -/
structure StP (c : EC) : Prop where
  z : c.st = 0 → c.out = [] ∧ c.ps = [] ∧ c.tm = tm0
  a : c.st = 1 → sentv c = 1
  b : c.st = 2 ∨ c.st = 5 → 0 ≤ sentv c ∧ sentv c ≤ c.out.length
  k3 : c.st = 3 ∨ c.st = 6 ∨ c.st = 7 → c.cl = true ∧ sentv c = c.out.length + 1
  k4 : c.st = 4 ∨ c.st = 8 → c.cl = true ∧ sentv c = 0 ∧ c.out.length = 0
theorem okC_iff (c : EC) : okC c = true ↔ OkP c ∧ StP c := by
  constructor
  · intro h
    have h2 := okC_parts h
    unfold okC okNum at h
    rw [Bool.and_eq_true, Bool.and_eq_true, Bool.and_eq_true, decide_eq_true_eq] at h
    obtain ⟨⟨h1, hb, ht⟩, h4⟩ := h
    have h5 := okSt_sent h4
    refine ⟨⟨by omega, by omega, by omega, by omega, by omega, by omega, hb, ht⟩, ⟨fun e => ?_, h5.1, h5.2.1, fun e => ⟨?_, h5.2.2.1 e⟩, fun e => ⟨?_, h5.2.2.2 e⟩⟩⟩
    · unfold okSt at h4
      rw [if_pos e, Bool.and_eq_true, Bool.and_eq_true, decide_eq_true_eq, decide_eq_true_eq] at h4
      obtain ⟨⟨h6, h7⟩, h8, h9⟩ := h4
      refine ⟨List.eq_nil_of_length_eq_zero h6, List.eq_nil_of_length_eq_zero h7, ?_⟩
      have h8 : c.tm.on = false := by simpa using h8
      cases hh : c.tm with
      | mk on l w t =>
        rw [hh] at h8 h9
        obtain ⟨rfl, rfl, rfl⟩ := h9
        have h8 : on = false := h8
        subst h8; rfl
    · unfold okSt at h4
      rw [if_neg (by omega), if_neg (by omega), if_neg (by omega), if_pos e, Bool.and_eq_true] at h4
      exact h4.1
    · unfold okSt at h4
      rw [if_neg (by omega), if_neg (by omega), if_neg (by omega), if_neg (by omega), Bool.and_eq_true] at h4
      exact h4.1
  · rintro ⟨h, s⟩
    obtain ⟨h1, h2, h3, h4, h5, h6, h7, h8⟩ := h
    unfold okC okNum
    rw [Bool.and_eq_true, Bool.and_eq_true, Bool.and_eq_true, decide_eq_true_eq]
    refine ⟨⟨by omega, h7, h8⟩, ?_⟩
    unfold okSt
    by_cases e0 : c.st = 0
    · rw [if_pos e0]
      obtain ⟨a1, a2, a3⟩ := s.z e0
      rw [a1, a2, a3]; rfl
    · rw [if_neg e0]
      by_cases e1 : c.st = 1
      · rw [if_pos e1, decide_eq_true_eq]; exact s.a e1
      · rw [if_neg e1]
        by_cases e2 : c.st = 2 ∨ c.st = 5
        · rw [if_pos e2, decide_eq_true_eq]; exact s.b e2
        · rw [if_neg e2]
          by_cases e3 : c.st = 3 ∨ c.st = 6 ∨ c.st = 7
          · rw [if_pos e3, Bool.and_eq_true, decide_eq_true_eq]; exact s.k3 e3
          · rw [if_neg e3, Bool.and_eq_true, decide_eq_true_eq]; exact s.k4 (by omega)
theorem rn_bd {c : EC} (h : OkP c) : 0 ≤ c.rn ∧ c.rn < 4294967296 := by have := h.buf; unfold bufB at this; rw [Bool.and_eq_true, decide_eq_true_eq] at this; omega
/-- The same link, peer, ports. -/
structure Same (c d : EC) : Prop where
  l : d.link = c.link
  i : d.ip = c.ip
  p : d.pp = c.pp
  o : d.po = c.po
theorem Same.refl (c : EC) : Same c c := ⟨rfl, rfl, rfl, rfl⟩
theorem Same.trans {c d e : EC} (h : Same c d) (g : Same d e) : Same c e := ⟨g.l.trans h.l, g.i.trans h.i, g.p.trans h.p, g.o.trans h.o⟩
/-- What it sends may be. -/
def SegK (c : EC) (x : ES) : Prop := okS x = true ∧ x.sp = c.po ∧ x.dp = c.pp ∧ x.d.length ≤ 536
def SegsK (c : EC) (l : List ES) : Prop := ∀ x ∈ l, SegK c x
theorem segs_nil (c : EC) : SegsK c [] := fun _ h => nomatch h
theorem segs_snoc {c : EC} {l : List ES} {x : ES} (h : SegsK c l) (hx : SegK c x) : SegsK c (l ++ [x]) := fun y hy => by
  rcases List.mem_append.1 hy with hy | hy
  · exact h y hy
  · rw [List.mem_singleton.1 hy]; exact hx
theorem segs_same {c d : EC} {l : List ES} (h : SegsK d l) (s : Same c d) : SegsK c l := fun x hx => by
  obtain ⟨h1, h2, h3, h4⟩ := h x hx
  exact ⟨h1, h2.trans s.o, h3.trans s.p, h4⟩
theorem mkS_ok {c : EC} {sq fl : Int} {d : List UInt8} (h : OkP c) (hs : 0 ≤ sq ∧ sq < 4294967296) (hf : 0 ≤ fl ∧ fl ≤ 63) (hd : d.length ≤ 536) : SegK c (mkS c sq fl d) := by
  have := rn_bd h
  have hi := h.id
  refine ⟨decide_eq_true ?_, rfl, rfl, hd⟩
  show 0 ≤ c.po ∧ c.po < 65536 ∧ 0 ≤ c.pp ∧ c.pp < 65536 ∧ 0 ≤ sq ∧ sq < 4294967296 ∧ 0 ≤ c.rn ∧ c.rn < 4294967296 ∧ 0 ≤ fl ∧ fl ≤ 63 ∧ 0 ≤ (2048 : Int) ∧ (2048 : Int) < 65536 ∧ d.length ≤ 1460
  omega
/-- A connection that may be. -/
structure CK (c : EC) : Prop where
  k : OkP c
  s : StP c
theorem ck_of {c : EC} (h : okC c = true) : CK c := ⟨((okC_iff c).1 h).1, ((okC_iff c).1 h).2⟩
theorem CK.ok {c : EC} (h : CK c) : okC c = true := (okC_iff c).2 ⟨h.k, h.s⟩
theorem shut_ck {c : EC} (h : OkP c) : CK (shutC c) := ⟨⟨h.id, by show (0 : Int) ≤ 0 ∧ (0 : Int) ≤ 8; omega, h.una, h.nxt, h.win, Nat.zero_le _, bufB_nil (rn_bd h).1 (rn_bd h).2, rfl⟩, ⟨fun _ => ⟨rfl, rfl, rfl⟩, fun e => absurd e (by show ¬ (0 : Int) = 1; decide), fun e => absurd e (by show ¬ ((0 : Int) = 2 ∨ (0 : Int) = 5); decide), fun e => absurd e (by show ¬ ((0 : Int) = 3 ∨ (0 : Int) = 6 ∨ (0 : Int) = 7); decide), fun e => absurd e (by show ¬ ((0 : Int) = 4 ∨ (0 : Int) = 8); decide)⟩⟩
theorem tm_ck {c : EC} {m : Tm} (h : CK c) (h0 : c.st ≠ 0) (hm : tv m = true) : CK { c with tm := m } := ⟨⟨h.k.id, h.k.st, h.k.una, h.k.nxt, h.k.win, h.k.out, h.k.buf, hm⟩, ⟨fun e => absurd e h0, h.s.a, h.s.b, h.s.k3, h.s.k4⟩⟩
theorem ackN_k {c d : EC} {l : List ES} (h : OkP d) (s : Same c d) (hl : SegsK c l) : SegsK c (ackN d l) := segs_snoc hl (by
  obtain ⟨h1, h2, h3, h4⟩ := mkS_ok (fl := 16) (d := []) h h.nxt (by decide) (Nat.zero_le _)
  exact ⟨h1, h2.trans s.o, h3.trans s.p, h4⟩)
theorem sent_addK {c : EC} {n : Int} (h : 0 ≤ sentv c ∧ sentv c ≤ 100000) (hn : 0 ≤ n ∧ n ≤ 100000) : diffv (addv c.nxt n) c.una = sentv c + n := by
  unfold sentv at *; unfold diffv addv at *; omega
theorem pumpL_ck : ∀ (f : Nat) (c : EC) (l : List ES), OkP c → 0 ≤ sentv c → sentv c ≤ c.out.length → SegsK c l → ∃ x, (pumpL f c l).1 = { c with nxt := x } ∧ (0 ≤ x ∧ x < 4294967296) ∧ 0 ≤ sentv { c with nxt := x } ∧ sentv { c with nxt := x } ≤ c.out.length ∧ SegsK c (pumpL f c l).2
  | 0, c, l, h, h0, h1, hl => ⟨c.nxt, rfl, h.nxt, h0, h1, hl⟩
  | f + 1, c, l, h, h0, h1, hl => by
    by_cases hp : pumpN c ≤ 0
    · rw [pumpL_stop hp]; exact ⟨c.nxt, rfl, h.nxt, h0, h1, hl⟩
    · rw [pumpL_go hp]
      have hN : pumpN c ≤ 536 ∧ pumpN c ≤ c.out.length - sentv c := by unfold pumpN; omega
      have ho := h.out
      have hs : sentv { c with nxt := addv c.nxt (pumpN c) } = sentv c + pumpN c := sent_addK (by omega) (by omega)
      obtain ⟨x, e1, e2, e3, e4, e5⟩ := pumpL_ck f { c with nxt := addv c.nxt (pumpN c) } (l ++ [mkS c c.nxt 24 ((c.out.drop (sentv c).toNat).take (pumpN c).toNat)]) ⟨h.id, h.st, h.una, addv_bd _ _, h.win, h.out, h.buf, h.tm⟩ (by rw [hs]; omega) (by rw [hs]; show _ ≤ (c.out.length : Int); omega)
        (segs_same (segs_snoc hl (mkS_ok h h.nxt (by decide) (by rw [List.length_take]; omega))) ⟨rfl, rfl, rfl, rfl⟩)
      exact ⟨x, e1, e2, e3, e4, segs_same e5 ⟨rfl, rfl, rfl, rfl⟩⟩
theorem pumpS_ck {c : EC} {l : List ES} (h : CK c) (hl : SegsK c l) : CK (pumpS c l).1 ∧ Same c (pumpS c l).1 ∧ SegsK c (pumpS c l).2 := by
  unfold pumpS
  by_cases hm : mayP c = true
  · rw [if_pos hm]
    have hst := mayP_st hm
    obtain ⟨b1, b2⟩ := h.s.b hst
    obtain ⟨x, e1, e2, e3, e4, e5⟩ := pumpL_ck (c.out.length + 1) c l h.k b1 b2 hl
    have ho := h.k.out
    unfold pumpA
    dsimp only
    rw [e1]
    have hk1 : OkP { c with nxt := x } := ⟨h.k.id, h.k.st, h.k.una, e2, h.k.win, h.k.out, h.k.buf, h.k.tm⟩
    have hc1 : CK { c with nxt := x } := ⟨hk1, ⟨fun e => by have e : c.st = 0 := e; omega, fun e => by have e : c.st = 1 := e; omega, fun _ => ⟨e3, e4⟩, fun e => by have e : c.st = 3 ∨ c.st = 6 ∨ c.st = 7 := e; omega, fun e => by have e : c.st = 4 ∨ c.st = 8 := e; omega⟩⟩
    have hF : CK (pumpF { c with nxt := x } (pumpL (c.out.length + 1) c l).2).1 ∧ Same c (pumpF { c with nxt := x } (pumpL (c.out.length + 1) c l).2).1 ∧ SegsK c (pumpF { c with nxt := x } (pumpL (c.out.length + 1) c l).2).2 ∧ (pumpF { c with nxt := x } (pumpL (c.out.length + 1) c l).2).1.st ≠ 0 := by
      unfold pumpF
      split
      · rename_i hcl
        rw [Bool.and_eq_true, decide_eq_true_eq] at hcl
        have hcl2 : sentv { c with nxt := x } = c.out.length := hcl.2
        have hs : sentv { c with nxt := addv x 1, st := if c.st = 2 then 3 else 7 } = sentv { c with nxt := x } + 1 := sent_addK (c := { c with nxt := x }) (by omega) (by decide)
        refine ⟨⟨⟨h.k.id, ?_, h.k.una, addv_bd _ _, h.k.win, h.k.out, h.k.buf, h.k.tm⟩, ?_⟩, ⟨rfl, rfl, rfl, rfl⟩, segs_snoc e5 (mkS_ok (c := { c with nxt := x }) hk1 e2 (by decide) (Nat.zero_le _)), ?_⟩
        · show 0 ≤ (if c.st = 2 then (3 : Int) else 7) ∧ (if c.st = 2 then (3 : Int) else 7) ≤ 8
          split <;> omega
        · have hs2 : (if c.st = 2 then (3 : Int) else 7) = 3 ∨ (if c.st = 2 then (3 : Int) else 7) = 7 := by split <;> omega
          refine ⟨fun e => ?_, fun e => ?_, fun e => ?_, fun _ => ⟨hcl.1, by rw [hs, hcl2]⟩, fun e => ?_⟩
          · have e : (if c.st = 2 then (3 : Int) else 7) = 0 := e; omega
          · have e : (if c.st = 2 then (3 : Int) else 7) = 1 := e; omega
          · have e : (if c.st = 2 then (3 : Int) else 7) = 2 ∨ (if c.st = 2 then (3 : Int) else 7) = 5 := e; omega
          · have e : (if c.st = 2 then (3 : Int) else 7) = 4 ∨ (if c.st = 2 then (3 : Int) else 7) = 8 := e; omega
        · show (if c.st = 2 then (3 : Int) else 7) ≠ 0
          split <;> omega
      · exact ⟨hc1, ⟨rfl, rfl, rfl, rfl⟩, e5, by show c.st ≠ 0; omega⟩
    obtain ⟨f1, f2, f3, f4⟩ := hF
    generalize pumpF { c with nxt := x } (pumpL (c.out.length + 1) c l).2 = p at f1 f2 f3 f4 ⊢
    unfold pumpT
    split
    · exact ⟨tm_ck f1 f4 rfl, ⟨f2.l, f2.i, f2.p, f2.o⟩, f3⟩
    · exact ⟨f1, f2, f3⟩
  · rw [if_neg hm]
    exact ⟨h, Same.refl c, hl⟩
theorem lastT_ck {c : EC} (h : CK c) : CK (lastT c) ∧ Same c (lastT c) := by
  unfold lastT
  split
  · rename_i hh
    simp only [Bool.and_eq_true, Bool.not_eq_true', beq_eq_false_iff_ne] at hh
    exact ⟨tm_ck h hh.2.2.1 rfl, ⟨rfl, rfl, rfl, rfl⟩⟩
  · exact ⟨h, Same.refl c⟩
/-- Behind an acknowledgement: the state may lag. -/
theorem ackF_ck {c : EC} (h : OkP c) (hz : c.st ≠ 0 ∧ c.st ≠ 1) (hb : c.st = 2 ∨ c.st = 5 → 0 ≤ sentv c ∧ sentv c ≤ c.out.length) (hc : c.st = 3 ∨ c.st = 6 ∨ c.st = 7 → c.cl = true ∧ (sentv c = c.out.length + 1 ∨ sentv c = 0 ∧ c.out.length = 0)) (hd : c.st = 4 ∨ c.st = 8 → c.cl = true ∧ sentv c = 0 ∧ c.out.length = 0) : CK (ackF c) ∧ Same c (ackF c) := by
  have hst := h.st
  unfold ackF
  by_cases hs : sentv c = 0
  · rw [if_pos hs]
    unfold finA
    by_cases e3 : c.st = 3
    · rw [if_pos e3]
      obtain ⟨c1, c2⟩ := hc (.inl e3)
      exact ⟨⟨⟨h.id, by show (0 : Int) ≤ 4 ∧ (4 : Int) ≤ 8; omega, h.una, h.nxt, h.win, h.out, h.buf, h.tm⟩, ⟨fun e => absurd e (by show ¬ (4 : Int) = 0; decide), fun e => absurd e (by show ¬ (4 : Int) = 1; decide), fun e => absurd e (by show ¬ ((4 : Int) = 2 ∨ (4 : Int) = 5); decide), fun e => absurd e (by show ¬ ((4 : Int) = 3 ∨ (4 : Int) = 6 ∨ (4 : Int) = 7); decide), fun _ => ⟨c1, hs, by show c.out.length = 0; omega⟩⟩⟩, ⟨rfl, rfl, rfl, rfl⟩⟩
    · rw [if_neg e3]
      by_cases e6 : c.st = 6
      · rw [if_pos e6]
        obtain ⟨c1, c2⟩ := hc (.inr (.inl e6))
        exact ⟨⟨⟨h.id, by show (0 : Int) ≤ 8 ∧ (8 : Int) ≤ 8; omega, h.una, h.nxt, h.win, h.out, h.buf, rfl⟩, ⟨fun e => absurd e (by show ¬ (8 : Int) = 0; decide), fun e => absurd e (by show ¬ (8 : Int) = 1; decide), fun e => absurd e (by show ¬ ((8 : Int) = 2 ∨ (8 : Int) = 5); decide), fun e => absurd e (by show ¬ ((8 : Int) = 3 ∨ (8 : Int) = 6 ∨ (8 : Int) = 7); decide), fun _ => ⟨c1, hs, by show c.out.length = 0; omega⟩⟩⟩, ⟨rfl, rfl, rfl, rfl⟩⟩
      · rw [if_neg e6]
        by_cases e7 : c.st = 7
        · rw [if_pos e7]; exact ⟨shut_ck h, ⟨rfl, rfl, rfl, rfl⟩⟩
        · rw [if_neg e7]; exact ⟨⟨h, ⟨fun e => absurd e hz.1, fun e => absurd e hz.2, hb, fun e => by omega, hd⟩⟩, Same.refl c⟩
  · rw [if_neg hs]
    exact ⟨⟨h, ⟨fun e => absurd e hz.1, fun e => absurd e hz.2, hb, fun e => by
      obtain ⟨c1, c2⟩ := hc e
      exact ⟨c1, by omega⟩, hd⟩⟩, Same.refl c⟩
theorem ackU_sent {c : EC} {s : ES} (h : 0 ≤ sentv c ∧ sentv c ≤ 100000) (hn : ¬ 0 < diffv s.ak c.nxt) (h0 : 0 < diffv s.ak c.una) : diffv s.ak c.una ≤ sentv c ∧ diffv c.nxt s.ak = sentv c - diffv s.ak c.una := by
  unfold sentv at *; unfold diffv at *; omega
theorem ackC_ck {c : EC} {s : ES} (h : CK c) (hs : okS s = true) (hz : c.st ≠ 0) : CK (ackC c s) ∧ Same c (ackC c s) := by
  have hsk : 0 ≤ s.ak ∧ s.ak < 4294967296 := by unfold okS at hs; rw [decide_eq_true_eq] at hs; omega
  have hst := h.k.st
  unfold ackC
  by_cases h1 : c.st = 1
  · rw [if_pos h1]
    split
    · exact ⟨⟨⟨h.k.id, by show (0 : Int) ≤ 2 ∧ (2 : Int) ≤ 8; omega, h.k.nxt, h.k.nxt, h.k.win, h.k.out, h.k.buf, rfl⟩, ⟨fun e => absurd e (by show ¬ (2 : Int) = 0; decide), fun e => absurd e (by show ¬ (2 : Int) = 1; decide), fun _ => by
        have e : sentv ({ c with una := c.nxt, st := 2, tm := tm0 } : EC) = 0 := by show diffv c.nxt c.nxt = 0; unfold diffv; omega
        rw [e]; show (0 : Int) ≤ 0 ∧ (0 : Int) ≤ (c.out.length : Int); omega, fun e => absurd e (by show ¬ ((2 : Int) = 3 ∨ (2 : Int) = 6 ∨ (2 : Int) = 7); decide), fun e => absurd e (by show ¬ ((2 : Int) = 4 ∨ (2 : Int) = 8); decide)⟩⟩, ⟨rfl, rfl, rfl, rfl⟩⟩
    · exact ⟨h, Same.refl c⟩
  · rw [if_neg h1]
    split
    · exact ⟨h, Same.refl c⟩
    · rename_i hn
      have ho := h.k.out
      have hse : 0 ≤ sentv c ∧ sentv c ≤ c.out.length + 1 := by
        rcases (show (c.st = 2 ∨ c.st = 5) ∨ (c.st = 3 ∨ c.st = 6 ∨ c.st = 7) ∨ (c.st = 4 ∨ c.st = 8) by omega) with e | e | e
        · have := h.s.b e; omega
        · have := (h.s.k3 e).2; omega
        · have := (h.s.k4 e).2; omega
      unfold ackU
      by_cases hp : 0 < diffv s.ak c.una
      · rw [if_pos hp]
        obtain ⟨u1, u2⟩ := ackU_sent (by omega) hn hp
        have hl : (c.out.drop (min (diffv s.ak c.una) c.out.length).toNat).length = c.out.length - (min (diffv s.ak c.una) c.out.length).toNat := List.length_drop
        have e2 : sentv ({ c with out := c.out.drop (min (diffv s.ak c.una) c.out.length).toNat, una := s.ak, tm := tm0 } : EC) = sentv c - diffv s.ak c.una := u2
        obtain ⟨g1, g2⟩ := ackF_ck (c := { c with out := c.out.drop (min (diffv s.ak c.una) c.out.length).toNat, una := s.ak, tm := tm0 }) ⟨h.k.id, h.k.st, hsk, h.k.nxt, h.k.win, by show (c.out.drop _).length ≤ _; omega, h.k.buf, rfl⟩ ⟨hz, h1⟩
          (fun e => by have := h.s.b e; rw [e2]; show _ ∧ _ ≤ (((c.out.drop _).length : Nat) : Int); omega)
          (fun e => by
            have := h.s.k3 e
            rw [e2]
            refine ⟨this.1, ?_⟩
            show _ = (((c.out.drop _).length : Nat) : Int) + 1 ∨ _ ∧ (c.out.drop _).length = 0
            omega)
          (fun e => by have := h.s.k4 e; omega)
        exact ⟨g1, ⟨g2.l, g2.i, g2.p, g2.o⟩⟩
      · rw [if_neg hp]
        exact ackF_ck h.k ⟨hz, h1⟩ h.s.b (fun e => ⟨(h.s.k3 e).1, .inl (h.s.k3 e).2⟩) h.s.k4
theorem win_ck {c : EC} {x : Int} (h : CK c) (hx : 0 ≤ x ∧ x < 65536) : CK { c with win := x } := ⟨⟨h.k.id, h.k.st, h.k.una, h.k.nxt, hx, h.k.out, h.k.buf, h.k.tm⟩, ⟨h.s.z, h.s.a, h.s.b, h.s.k3, h.s.k4⟩⟩
theorem hearC_ck {c : EC} {s : ES} (h : CK c) : CK (hearC c s) ∧ Same c (hearC c s) := by
  have hst := h.k.st
  unfold hearC
  cases hh : hearsC c with
  | false => exact ⟨h, Same.refl c⟩
  | true =>
    rw [if_pos rfl]
    have hs : c.st = 2 ∨ c.st = 3 ∨ c.st = 4 := by unfold hearsC at hh; simpa using hh
    have hb : CK { c with rn := addNext c.rn c.ps s.sq s.d, ps := addParts c.rn c.ps s.sq s.d } := ⟨⟨h.k.id, h.k.st, h.k.una, h.k.nxt, h.k.win, h.k.out, buf_keep h.k.buf, h.k.tm⟩, ⟨fun e => by have e : c.st = 0 := e; omega, h.s.a, h.s.b, h.s.k3, h.s.k4⟩⟩
    generalize hc : ({ c with rn := addNext c.rn c.ps s.sq s.d, ps := addParts c.rn c.ps s.sq s.d } : EC) = c1 at hb ⊢
    have hs1 : c1.st = 2 ∨ c1.st = 3 ∨ c1.st = 4 := by rw [← hc]; exact hs
    have hsm : Same c c1 := by rw [← hc]; exact ⟨rfl, rfl, rfl, rfl⟩
    refine (show CK (finS c1 s) ∧ Same c1 (finS c1 s) from ?_).imp (fun x => x) (fun x => hsm.trans x)
    unfold finS
    split
    · rename_i hf
      rw [Bool.and_eq_true, Bool.and_eq_true, decide_eq_true_eq] at hf
      have hp : c1.ps = [] := List.eq_nil_of_length_eq_zero hf.2.2
      have hbuf : bufB (addv c1.rn 1) c1.ps = true := by rw [hp]; exact bufB_nil (addv_bd _ _).1 (addv_bd _ _).2
      by_cases e2 : c1.st = 2
      · rw [if_pos e2]
        exact ⟨⟨⟨hb.k.id, by show (0 : Int) ≤ 5 ∧ (5 : Int) ≤ 8; omega, hb.k.una, hb.k.nxt, hb.k.win, hb.k.out, hbuf, hb.k.tm⟩, ⟨fun e => absurd e (by show ¬ (5 : Int) = 0; decide), fun e => absurd e (by show ¬ (5 : Int) = 1; decide), fun _ => hb.s.b (.inl e2), fun e => absurd e (by show ¬ ((5 : Int) = 3 ∨ (5 : Int) = 6 ∨ (5 : Int) = 7); decide), fun e => absurd e (by show ¬ ((5 : Int) = 4 ∨ (5 : Int) = 8); decide)⟩⟩, ⟨rfl, rfl, rfl, rfl⟩⟩
      · rw [if_neg e2]
        by_cases e3 : c1.st = 3
        · rw [if_pos e3]
          exact ⟨⟨⟨hb.k.id, by show (0 : Int) ≤ 6 ∧ (6 : Int) ≤ 8; omega, hb.k.una, hb.k.nxt, hb.k.win, hb.k.out, hbuf, hb.k.tm⟩, ⟨fun e => absurd e (by show ¬ (6 : Int) = 0; decide), fun e => absurd e (by show ¬ (6 : Int) = 1; decide), fun e => absurd e (by show ¬ ((6 : Int) = 2 ∨ (6 : Int) = 5); decide), fun _ => hb.s.k3 (.inl e3), fun e => absurd e (by show ¬ ((6 : Int) = 4 ∨ (6 : Int) = 8); decide)⟩⟩, ⟨rfl, rfl, rfl, rfl⟩⟩
        · rw [if_neg e3]
          by_cases e4 : c1.st = 4
          · rw [if_pos e4]
            exact ⟨⟨⟨hb.k.id, by show (0 : Int) ≤ 8 ∧ (8 : Int) ≤ 8; omega, hb.k.una, hb.k.nxt, hb.k.win, hb.k.out, hbuf, rfl⟩, ⟨fun e => absurd e (by show ¬ (8 : Int) = 0; decide), fun e => absurd e (by show ¬ (8 : Int) = 1; decide), fun e => absurd e (by show ¬ ((8 : Int) = 2 ∨ (8 : Int) = 5); decide), fun e => absurd e (by show ¬ ((8 : Int) = 3 ∨ (8 : Int) = 6 ∨ (8 : Int) = 7); decide), fun _ => hb.s.k4 (.inl e4)⟩⟩, ⟨rfl, rfl, rfl, rfl⟩⟩
          · omega
    · exact ⟨hb, Same.refl c1⟩
theorem take_ck {c : EC} {s : ES} (h : CK c) (hs : okS s = true) : CK (takeS c s).1 ∧ Same c (takeS c s).1 ∧ SegsK c (takeS c s).2.1 := by
  have hsw : (0 ≤ s.wn ∧ s.wn < 65536) ∧ (0 ≤ s.ak ∧ s.ak < 4294967296) := by unfold okS at hs; rw [decide_eq_true_eq] at hs; omega
  have hi := h.k.id
  unfold takeS
  by_cases h0 : c.st = 0
  · rw [if_pos h0]; exact ⟨h, Same.refl c, segs_nil c⟩
  · rw [if_neg h0]
    have hackL : SegsK c (ackL c [] s) := by
      unfold ackL
      split
      · split
        · exact segs_nil c
        · refine segs_snoc (segs_nil c) ⟨decide_eq_true ?_, rfl, rfl, Nat.zero_le _⟩
          show 0 ≤ c.po ∧ c.po < 65536 ∧ 0 ≤ c.pp ∧ c.pp < 65536 ∧ 0 ≤ s.ak ∧ s.ak < 4294967296 ∧ 0 ≤ (0 : Int) ∧ (0 : Int) < 4294967296 ∧ 0 ≤ (4 : Int) ∧ (4 : Int) ≤ 63 ∧ 0 ≤ (0 : Int) ∧ (0 : Int) < 65536 ∧ 0 ≤ 1460
          omega
      · split
        · exact ackN_k h.k (Same.refl c) (segs_nil c)
        · exact segs_nil c
    split
    · split
      · exact ⟨shut_ck h.k, ⟨rfl, rfl, rfl, rfl⟩, segs_nil c⟩
      · split
        · exact ⟨h, Same.refl c, ackN_k h.k (Same.refl c) (segs_nil c)⟩
        · split
          · obtain ⟨a1, a2⟩ := ackC_ck h hs h0
            split
            · have w1 := win_ck a1 hsw.1
              obtain ⟨b1, b2⟩ := hearC_ck (s := s) w1
              have hsm : Same c (hearC { ackC c s with win := s.wn } s) := a2.trans (Same.trans (⟨rfl, rfl, rfl, rfl⟩ : Same (ackC c s) { ackC c s with win := s.wn }) b2)
              have hl : SegsK (hearC { ackC c s with win := s.wn } s) (lenL (hearC { ackC c s with win := s.wn } s) (ackL c [] s) s) := by
                have hl0 : SegsK (hearC { ackC c s with win := s.wn } s) (ackL c [] s) := segs_same hackL ⟨hsm.l.symm, hsm.i.symm, hsm.p.symm, hsm.o.symm⟩
                unfold lenL
                split
                · exact ackN_k b1.k (Same.refl _) hl0
                · exact hl0
              obtain ⟨p1, p2, p3⟩ := pumpS_ck b1 hl
              obtain ⟨q1, q2⟩ := lastT_ck p1
              exact ⟨q1, hsm.trans (p2.trans q2), segs_same p3 hsm⟩
            · exact ⟨a1, a2, hackL⟩
          · exact ⟨h, Same.refl c, segs_nil c⟩
    · unfold outS
      split
      · exact ⟨h, Same.refl c, segs_nil c⟩
      · refine ⟨?_, ?_, ackN_k h.k (Same.refl c) (segs_nil c)⟩
        · show CK (if c.st = 8 then { c with tm := tmS 20 } else c)
          split
          · exact tm_ck h h0 rfl
          · exact h
        · show Same c (if c.st = 8 then { c with tm := tmS 20 } else c)
          split
          · exact ⟨rfl, rfl, rfl, rfl⟩
          · exact Same.refl c
theorem send_ck {c : EC} {b : List UInt8} (h : CK c) (hE : sendE c b.length = 0) : CK (pumpS { c with out := c.out ++ b } []).1 ∧ Same c (pumpS { c with out := c.out ++ b } []).1 ∧ SegsK c (pumpS { c with out := c.out ++ b } []).2 := by
  have hst := h.k.st
  have hE2 : mayP c = true ∧ b.length ≤ 8192 - c.out.length := by
    unfold sendE at hE
    split at hE
    · rename_i hh
      rw [Bool.and_eq_true] at hh
      split at hE
      · exact ⟨hh.1, by assumption⟩
      · simp at hE
    · simp at hE
  have hs := mayP_st hE2.1
  have hb := h.s.b hs
  have ho := h.k.out
  have hl : (c.out ++ b).length = c.out.length + b.length := List.length_append
  have h1 : CK { c with out := c.out ++ b } := ⟨⟨h.k.id, h.k.st, h.k.una, h.k.nxt, h.k.win, by show (c.out ++ b).length ≤ _; omega, h.k.buf, h.k.tm⟩, ⟨fun e => by have e : c.st = 0 := e; omega, h.s.a, fun _ => ⟨hb.1, by show _ ≤ (((c.out ++ b).length : Nat) : Int); have := hb.2; show sentv c ≤ _; omega⟩, fun e => by have e : c.st = 3 ∨ c.st = 6 ∨ c.st = 7 := e; omega, fun e => by have e : c.st = 4 ∨ c.st = 8 := e; omega⟩⟩
  obtain ⟨p1, p2, p3⟩ := pumpS_ck h1 (segs_nil _)
  exact ⟨p1, ⟨p2.l, p2.i, p2.p, p2.o⟩, segs_same p3 ⟨rfl, rfl, rfl, rfl⟩⟩
theorem close_ck {c : EC} (h : CK c) : CK (pumpS { c with cl := true } []).1 ∧ Same c (pumpS { c with cl := true } []).1 ∧ SegsK c (pumpS { c with cl := true } []).2 := by
  have h1 : CK { c with cl := true } := ⟨⟨h.k.id, h.k.st, h.k.una, h.k.nxt, h.k.win, h.k.out, h.k.buf, h.k.tm⟩, ⟨h.s.z, h.s.a, h.s.b, fun e => ⟨rfl, (h.s.k3 e).2⟩, fun e => ⟨rfl, (h.s.k4 e).2⟩⟩⟩
  obtain ⟨p1, p2, p3⟩ := pumpS_ck h1 (segs_nil _)
  exact ⟨p1, ⟨p2.l, p2.i, p2.p, p2.o⟩, segs_same p3 ⟨rfl, rfl, rfl, rfl⟩⟩
theorem back_tv {t : Tm} (h : tv t = true) (h8 : t.tries ≠ 8) (hon : t.on = true) : tv (backv t) = true := by
  have hb : 0 ≤ backw t.wait ∧ backw t.wait ≤ 48 := by
    unfold tv at h
    simp only [Bool.and_eq_true, decide_eq_true_eq] at h
    have := backw_cases t.wait (by omega) (by omega)
    omega
  unfold tv at h ⊢
  simp only [Bool.and_eq_true, decide_eq_true_eq] at h ⊢
  refine ⟨⟨⟨hb, hb⟩, ?_⟩, by show (t.on || _) = true; rw [hon]; rfl⟩
  show 0 ≤ t.tries + 1 ∧ t.tries + 1 ≤ 8
  omega
theorem tick_ck {c : EC} (h : CK c) : CK (tickS c).1 ∧ Same c (tickS c).1 ∧ SegsK c (tickS c).2 := by
  have hst := h.k.st
  have ht := tick_tv h.k.tm
  unfold tickS
  by_cases h0 : c.st = 0
  · obtain ⟨z1, z2, z3⟩ := h.s.z h0
    have hr : ringv c.tm = false := by rw [z3]; rfl
    have e : tickv c.tm = c.tm := by rw [z3]; rfl
    rw [hr, e]
    exact ⟨h, Same.refl c, segs_nil c⟩
  · have h1 : CK { c with tm := tickv c.tm } := tm_ck h h0 ht
    split
    · rename_i hr
      have hon := tick_ring hr
      generalize hc : ({ c with tm := tickv c.tm } : EC) = d at h1 ⊢
      have hsm : Same c d := by rw [← hc]; exact ⟨rfl, rfl, rfl, rfl⟩
      have hd0 : d.st ≠ 0 := by rw [← hc]; exact h0
      have hdon : d.tm.on = true := by rw [← hc]; exact hon
      have ho := h1.k.out
      have hst2 := h1.k.st
      refine (show CK (expireS d []).1 ∧ Same d (expireS d []).1 ∧ SegsK d (expireS d []).2 from ?_).imp (fun x => x) (fun x => ⟨hsm.trans x.1, segs_same x.2 hsm⟩)
      unfold expireS
      by_cases e8 : d.st = 8
      · rw [if_pos e8]; exact ⟨shut_ck h1.k, ⟨rfl, rfl, rfl, rfl⟩, segs_nil d⟩
      · rw [if_neg e8]
        by_cases et : d.tm.tries = 8
        · rw [if_pos et]
          unfold abortS
          rw [if_neg hd0]
          exact ⟨shut_ck h1.k, ⟨rfl, rfl, rfl, rfl⟩, segs_snoc (segs_nil d) (mkS_ok h1.k h1.k.nxt (by decide) (Nat.zero_le _))⟩
        · rw [if_neg et]
          have hbk : CK { d with tm := backv d.tm } := tm_ck h1 hd0 (back_tv h1.k.tm et hdon)
          by_cases e1 : d.st = 1
          · rw [if_pos e1]; exact ⟨hbk, ⟨rfl, rfl, rfl, rfl⟩, segs_snoc (segs_nil d) (mkS_ok h1.k h1.k.una (by decide) (Nat.zero_le _))⟩
          · rw [if_neg e1]
            split
            · split
              · exact ⟨hbk, ⟨rfl, rfl, rfl, rfl⟩, segs_snoc (segs_nil d) (mkS_ok h1.k h1.k.una (by decide) (by rw [List.length_take]; omega))⟩
              · exact ⟨hbk, ⟨rfl, rfl, rfl, rfl⟩, segs_snoc (segs_nil d) (mkS_ok h1.k h1.k.una (by decide) (Nat.zero_le _))⟩
            · rename_i hns
              split
              · rename_i hout
                have hs25 : d.st = 2 ∨ d.st = 5 := by
                  rcases (show (d.st = 2 ∨ d.st = 5) ∨ (d.st = 3 ∨ d.st = 6 ∨ d.st = 7) ∨ (d.st = 4 ∨ d.st = 8) by omega) with e | e | e
                  · exact e
                  · have := (h1.s.k3 e).2; omega
                  · have := (h1.s.k4 e).2.2; omega
                have hb := h1.s.b hs25
                have hs : sentv ({ d with tm := backv d.tm, nxt := addv d.nxt 1 } : EC) = sentv d + 1 := sent_addK (by omega) (by decide)
                refine ⟨⟨⟨h1.k.id, h1.k.st, h1.k.una, addv_bd _ _, h1.k.win, h1.k.out, h1.k.buf, back_tv h1.k.tm et hdon⟩, ⟨fun e => absurd e hd0, fun e => absurd e e1, fun _ => by rw [hs]; show _ ∧ _ ≤ (d.out.length : Int); omega, fun e => by have e : d.st = 3 ∨ d.st = 6 ∨ d.st = 7 := e; omega, fun e => by have e : d.st = 4 ∨ d.st = 8 := e; omega⟩⟩, ⟨rfl, rfl, rfl, rfl⟩, segs_snoc (segs_nil d) (mkS_ok h1.k h1.k.nxt (by decide) (by rw [List.length_take]; omega))⟩
              · exact ⟨tm_ck h1 hd0 rfl, ⟨rfl, rfl, rfl, rfl⟩, segs_nil d⟩
    · exact ⟨h1, ⟨rfl, rfl, rfl, rfl⟩, segs_nil c⟩
theorem num5 (x : Int) : 0 ≤ within x 5 ∧ within x 5 < 5 := within_bd x 5 (by decide)
theorem idxSegJ (b off n cap i : Nat) (hi : i < n) (w : World) : (Instr.indexAt 73 (.slice (some ⟨b, off, none⟩) n cap) (.int .i64 (i : Int))).run Try.prog w = .ok (.pointer (some ⟨b, off + i * 7, none⟩)) w := by
  have h2 : ¬ n ≤ i := by omega
  simp [go_sem, Instr.indexAt, h2]
theorem seg_load (x : ES) (vd : Value) (b off : Nat) (W : World) (h : ∀ j u, (x.row vd)[j]? = some u → W.cell? ⟨b, off + j, none⟩ = some u) : (Instr.loadAt 70 (.pointer (some ⟨b, off, none⟩))).run Try.prog W = .ok (.agg (x.row vd).toArray) W :=
  run_loadAt_mid W b off _ (x.row vd) _ h Try.underlying70 rfl (by kernel_rfl)
theorem sendE_3 (c : EC) (n : Nat) : sendE c n = 0 ∨ sendE c n = 5 ∨ sendE c n = 6 := by
  unfold sendE
  split
  · split
    · exact .inl rfl
    · exact .inr (.inl rfl)
  · exact .inr (.inr rfl)
theorem closeE_2 (c : EC) : closeE c = 0 ∨ closeE c = 6 := by unfold closeE; split <;> simp
theorem mt_ok {c : EC} {s : ES} (h : mayTake c s = true) : okS s = true := (mayTake_parts h).2.1
def tblK : List TE := ⟨72, true, 12, [0, 1, 2, 3, 10, 11], 0⟩ :: ⟨65, true, 17, [0, 16], 0⟩ :: ⟨63, false, 1, [], 1⟩ :: tblT
theorem tblK_ok : tblK.all (TE.okB Try.prog) = true := by kernel_rfl
instance (priority := 30000) : TOk Try.prog tblK := ⟨tblK_ok⟩
set_option maxRecDepth 100000 in
set_option maxHeartbeats 4000000 in
theorem tcpKeeps_walk (w : World) (cs : List Value) (h : RdZ Try.prog w 65 cs) :
    Calls Try.prog 7 #[.agg cs.toArray] w fun e w' => e = .returned (.bool true) ∧ Below w.heap.size w w' := by
  obtain ⟨c, ao, ap, ac, co, cp, cc, C, rfl, hol47, HL, HC, hO, hP⟩ := script16_of w cs h
  have hb0 := Below.refl w.heap.size w
  refine fw_en 154 [(0, .agg #[.int .i64 c.link, .int .i64 c.ip, .int .i64 c.pp, .int .i64 c.po, .int .i64 c.st, .int .i64 c.una, .int .i64 c.nxt, .int .i64 c.win, .slice ao c.out.length co, .int .i64 c.rn, .slice ap c.ps.length cp, .bool c.cl, .bool c.tm.on, .int .i64 c.tm.left, .int .i64 c.tm.wait, .int .i64 c.tm.tries, .slice ac C.length cc])] Try.func7 rfl Try.ntmps7 rfl ⟨rfl, trivial⟩ ?_
  refine fw_sq ?_
  refine fw_rg rfl ?_
  refine fw_bx rfl (cs := [.int .i64 c.link, .int .i64 c.ip, .int .i64 c.pp, .int .i64 c.po, .int .i64 c.st, .int .i64 c.una, .int .i64 c.nxt, .int .i64 c.win, .slice ao c.out.length co, .int .i64 c.rn, .slice ap c.ps.length cp, .bool c.cl, .bool c.tm.on, .int .i64 c.tm.left, .int .i64 c.tm.wait, .int .i64 c.tm.tries, .slice ac C.length cc]) rfl ?_
  intro q1 W2 g5 s3 r4
  have := Nat.le_trans hb0.size g5
  have b6 := hb0.trans (s3.mono hb0.size)
  refine fw_pu rfl ?_
  refine fw_dt ?_
  refine fw_sq ?_
  refine fw_sq ?_
  refine fw_rg rfl ?_
  refine fw_ld r4 rfl rfl ?_
  refine fw_ca Try.func30 rfl rfl rfl (heavy16_any c ao ap co cp C ac cc W2 hol47 (HL.below b6) (HC.below b6)) ?_
  rintro _ V8 ⟨bh, rfl, hb7, hheavy⟩
  refine ⟨(.bool bh), rfl, ?_⟩
  have b9 := b6.trans (hb7.mono b6.size)
  have r10 := r4.below hb7
  refine fw_pu rfl ?_
  rcases Bool.eq_false_or_eq_true (bh) with hb_11 | hb_11
  · skip
    refine fw_kn 12 rfl hb_11 ?_
    iterate 5 refine fw_pu rfl ?_
    refine fw_dt ?_
    refine fw_cT rfl rfl ?_
    refine fw_sq ?_
    refine fw_rg rfl ?_
    refine fw_pu rfl ?_
    refine fw_dt ?_
    refine fw_rt ?_
    refine fw_tr ?_
    refine ⟨fun a h => ?_⟩
    exact ow_ret1 rfl h.df (h.g 2 rfl) ⟨rfl, b9⟩
  refine fw_kn 12 rfl hb_11 ?_
  refine fw_pu rfl ?_
  refine fw_ld r10 rfl rfl ?_
  refine fw_ca Try.func31 rfl rfl rfl ((rconn_any c ao ap co cp V8 (hP.below b9) (Nat.le_trans (hheavy hb_11).1.2.1 (by decide)) (fun x hx => Nat.le_trans ((hheavy hb_11).1.2.2 x hx) (by decide)))) ?_
  rintro _ V13 ⟨rfl, hb12⟩
  refine ⟨(.bool (okC c)), rfl, ?_⟩
  have b14 := b9.trans (hb12.mono b9.size)
  have r15 := r10.below hb12
  iterate 2 refine fw_pu rfl ?_
  refine fw_dt ?_
  rcases Bool.eq_false_or_eq_true ((okC c)) with hb_16 | hb_16
  · skip
    refine fw_cF rfl (not_of hb_16) ?_
    refine fw_sk ?_
    refine fw_th ?_
    refine fw_sq ?_
    refine fw_rg rfl ?_
    refine fw_pu rfl ?_
    refine fw_ld r15 rfl rfl ?_
    have := r15.2.2
    obtain ⟨Bzn19, hBzn19⟩ : ∃ x, x = V13.heap.size := ⟨_, rfl⟩
    have hwBn19 : w.heap.size ≤ Bzn19 := by rw [hBzn19]; exact b14.size
    refine fw_ca Try.func32 rfl rfl rfl (copyConn_t c ao ap co cp V13 (hheavy hb_11).1 (hO.below b14) (hP.below b14)) ?_
    rintro _ V18 ⟨aon19, con19, apn19, cpn19, rfl, hb17, hRn19⟩
    refine ⟨_, rfl, ?_⟩
    have hTn19 := Tch.refl (fun k => k < Bzn19) V18
    rw [← hBzn19] at hRn19
    have b20 := b14.trans (hb17.mono b14.size)
    have r21 := r15.below hb17
    refine fw_al (t := 62) (u := fun q => .pointer (some ⟨q, 0, none⟩)) 3 [.int .i64 0, .int .i64 0, .int .i64 0, .int .i64 0, .int .i64 0, .int .i64 0, .int .i64 0, .int .i64 0, .slice none 0 0, .int .i64 0, .slice none 0 0, .bool false, .bool false, .int .i64 0, .int .i64 0, .int .i64 0] rfl rfl rfl (fun a h => (run_allocOp (by simp [go_sem, Instr.alloc]))) ?_
    intro q22 W23 g26 s24 r25
    have := Nat.le_trans b20.size g26
    have := r21.lt g26
    have := Nat.le_trans hTn19.size g26
    have b27 := b20.trans (s24.mono b20.size)
    have r28 := r21.below s24
    have f29 := (Tch.grow hTn19 s24)
    refine fw_st r25 rfl rfl ?_
    intro W30 s31 r32
    have b33 := below_chg b27 s31 (by omega) b27.size
    have r34 := r28.chg s31 (by omega)
    have f35 := (Tch.chg f29 s31 (.inr (by omega)))
    refine fw_dt ?_
    refine fw_sq ?_
    refine fw_sq ?_
    refine fw_rg rfl ?_
    refine fw_pu rfl ?_
    refine fw_dt ?_
    refine fw_bk ?_
    have hbh : bh = false := hb_11
    have hck0 := ck_of (show okC c = true from hb_16)
    refine fw_lp (fun N K W => ∃ (i : Nat) (cI : EC) (aoI : Option Addr) (apI : Option Addr) (coI : Nat) (cpI : Nat) (BB : Nat) (WB : World), N = C.length - i ∧ i ≤ C.length ∧ CK cI ∧ bdC cI ∧ w.heap.size ≤ BB ∧ (q22 < BB ∨ WB.heap.size ≤ q22) ∧ (∀ W, Tch (fun k => k < BB) WB W → Sl W (.slice aoI cI.out.length coI) cI.out ∧ KPart.Sl W (.slice apI cI.ps.length cpI) cI.ps) ∧ K = [(1, .pointer (some ⟨q1, 0, none⟩)), (3, .pointer (some ⟨q22, 0, none⟩)), (4, .int .i64 ((i : Nat) : Int))] ∧ Below w.heap.size w W ∧ RowAt W q1 [.int .i64 c.link, .int .i64 c.ip, .int .i64 c.pp, .int .i64 c.po, .int .i64 c.st, .int .i64 c.una, .int .i64 c.nxt, .int .i64 c.win, .slice ao c.out.length co, .int .i64 c.rn, .slice ap c.ps.length cp, .bool c.cl, .bool c.tm.on, .int .i64 c.tm.left, .int .i64 c.tm.wait, .int .i64 c.tm.tries, .slice ac C.length cc] ∧ RowAt W q22 [.int .i64 cI.link, .int .i64 cI.ip, .int .i64 cI.pp, .int .i64 cI.po, .int .i64 cI.st, .int .i64 cI.una, .int .i64 cI.nxt, .int .i64 cI.win, .slice aoI cI.out.length coI, .int .i64 cI.rn, .slice apI cI.ps.length cpI, .bool cI.cl, .bool cI.tm.on, .int .i64 cI.tm.left, .int .i64 cI.tm.wait, .int .i64 cI.tm.tries] ∧ Tch (fun k => k < BB) WB W) _ _ ⟨0, c, aon19, apn19, con19, cpn19, Bzn19, V18, rfl, (Nat.zero_le _), hck0, (hheavy hbh).1, hwBn19, (.inr (by omega)), hRn19, rfl, b33, r34, r32, f35⟩ ⟨rfl, rfl, (by first | rfl | (simp only [Look, cond, Nat.beq]; first | rfl | (congr 2; first | rfl | omega | (push_cast; omega)) | (simp; try omega))), trivial⟩ ?_
    rintro N _ W36 ⟨i, cI, aoI, apI, coI, cpI, BB, WB, rfl, hiC, hckI, hbI, hwBB, hqBB, hR, rfl, bW36, rW36_0, rW36_1, gW36_0⟩
    intro K38 hK38
    have hC100 := (hheavy hbh).2.1
    refine fw_sq ?_
    refine fw_sq ?_
    refine fw_rg rfl ?_
    iterate 2 refine fw_pu rfl ?_
    refine fw_ld rW36_0 rfl rfl ?_
    iterate 3 refine fw_pu rfl ?_
    rcases Bool.eq_false_or_eq_true ((decide (((i : Nat) : Int) < ((C.length : Nat) : Int)))) with hb_39 | hb_39
    · skip
      refine fw_kn 26 rfl hb_39 ?_
      iterate 3 refine fw_pu rfl ?_
      refine fw_dt ?_
      rcases Bool.eq_false_or_eq_true ((decide (((i : Nat) : Int) < 12))) with hb_40 | hb_40
      · skip
        refine fw_cT rfl hb_40 ?_
        refine fw_sk ?_
        refine fw_th ?_
        refine fw_sq ?_
        refine fw_bk ?_
        refine fw_sq ?_
        have hiP : i < C.length := by have h := of_decide_eq_true hb_39; omega
        obtain ⟨x0, hx0⟩ : ∃ p, C[i]? = some p := ⟨_, List.getElem?_eq_getElem hiP⟩
        obtain ⟨bP, oP, haP, hbP, hcP⟩ := HC.1 (fun e => by rw [e] at hiP; simp at hiP)
        obtain ⟨ad, cd, ab, cb, hsd, hsb, hca, -⟩ := hcP i x0 hx0
        have hdl := (hheavy hbh).2.2 x0 (List.mem_of_getElem? hx0)
        refine fw_rg rfl ?_
        refine fw_pu rfl ?_
        refine fw_ld rW36_0 rfl rfl ?_
        refine fw_pu rfl ?_
        refine fw_ex 35 (.pointer (some ⟨bP, (oP + i * 12), none⟩)) rfl rfl rfl (fun a h => (run_indexOp (h.ev rfl) (h.ev rfl) (by rw [haP]; exact idxAct _ _ _ _ _ hiP _))) ?_
        refine fw_ex 36 (.agg #[.int .i64 x0.d, .int .i64 x0.n, .int .i64 x0.m, .int .i64 x0.s.sp, .int .i64 x0.s.dp, .int .i64 x0.s.sq, .int .i64 x0.s.ak, .int .i64 x0.s.fl, .int .i64 x0.s.wn, .slice ad x0.s.d.length cd, .bool x0.f, .slice ab x0.b.length cb]) rfl rfl rfl (fun a h => (run_loadOp (h.ev rfl) (act_load x0 (.slice ad x0.s.d.length cd) (.slice ab x0.b.length cb) bP _ _ (fun j u hj => (Below.cell bW36 (p := ⟨bP, oP + i * 12 + j, none⟩) hbP).trans (hca j u hj))))) ?_
        refine fw_al (t := 72) (u := fun q => .pointer (some ⟨q, 0, none⟩)) 5 [.int .i64 0, .int .i64 0, .int .i64 0, .int .i64 0, .int .i64 0, .int .i64 0, .int .i64 0, .int .i64 0, .int .i64 0, .slice none 0 0, .bool false, .slice none 0 0] rfl rfl rfl (fun a h => (run_allocOp (by simp [go_sem, Instr.alloc]))) ?_
        intro q41 W42 g45 s43 r44
        have := Nat.le_trans bW36.size g45
        have := rW36_0.lt g45
        have := rW36_1.lt g45
        have := Nat.le_trans gW36_0.size g45
        have b46 := bW36.trans (s43.mono bW36.size)
        have r47 := rW36_0.below s43
        have r48 := rW36_1.below s43
        have f49 := (Tch.grow gW36_0 s43)
        refine fw_st r44 rfl rfl ?_
        intro W50 s51 r52
        have b53 := below_chg b46 s51 (by omega) b46.size
        have r54 := r47.chg s51 (by omega)
        have r55 := r48.chg s51 (by omega)
        have f56 := (Tch.chg f49 s51 (.inr (by omega)))
        refine fw_dt ?_
        refine fw_sq ?_
        refine fw_rg rfl ?_
        refine fw_al (t := 62) (u := fun q => .pointer (some ⟨q, 0, none⟩)) 6 [.int .i64 0, .int .i64 0, .int .i64 0, .int .i64 0, .int .i64 0, .int .i64 0, .int .i64 0, .int .i64 0, .slice none 0 0, .int .i64 0, .slice none 0 0, .bool false, .bool false, .int .i64 0, .int .i64 0, .int .i64 0] rfl rfl rfl (fun a h => (run_allocOp (by simp [go_sem, Instr.alloc]))) ?_
        intro q57 W58 g61 s59 r60
        have := Nat.le_trans b53.size g61
        have := r54.lt g61
        have := r55.lt g61
        have := r52.lt g61
        have := Nat.le_trans f56.size g61
        have b62 := b53.trans (s59.mono b53.size)
        have r63 := r54.below s59
        have r64 := r55.below s59
        have r65 := r52.below s59
        have f66 := (Tch.grow f56 s59)
        refine fw_dt ?_
        refine fw_sq ?_
        refine fw_rg rfl ?_
        refine fw_pu rfl ?_
        refine fw_dt ?_
        refine fw_sq ?_
        refine fw_rg rfl ?_
        refine fw_pu rfl ?_
        refine fw_dt ?_
        refine fw_sq ?_
        refine fw_sq ?_
        refine fw_rg rfl ?_
        refine fw_pu rfl ?_
        refine fw_ld r65 rfl rfl ?_
        refine fw_ca Try.func28 rfl rfl rfl ((within_any x0.d 5 W58 (by decide) (by decide))) ?_
        rintro _ _ ⟨rfl, rfl⟩
        refine ⟨(.int .i64 (within x0.d 5)), rfl, ?_⟩
        refine fw_dt ?_
        refine fw_bk ?_
        refine fw_sq ?_
        refine fw_rg rfl ?_
        iterate 2 refine fw_pu rfl ?_
        refine fw_dt ?_
        rcases Bool.eq_false_or_eq_true (((within x0.d 5) == 0)) with hb_67 | hb_67
        · skip
          refine fw_cT rfl hb_67 ?_
          rcases sendE_3 cI x0.b.length with hE | hE | hE
          · skip
            refine fw_rg rfl ?_
            refine fw_ld r64 rfl rfl ?_
            refine fw_pu rfl ?_
            refine fw_ld r65 rfl rfl ?_
            obtain ⟨⟨c69, l69⟩, hs69⟩ : ∃ x, pumpS { cI with out := cI.out ++ x0.b } [] = x := ⟨_, rfl⟩
            have hck69 := send_ck hckI hE
            have hbd69 := bd_send hbI hE
            rw [hs69] at hck69 hbd69
            have hqB69 := (f66).size
            have := r63.2.2
            have := r64.2.2
            have := r65.2.2
            have := r60.2.2
            obtain ⟨Bz69, hBz69⟩ : ∃ x, x = W58.heap.size := ⟨_, rfl⟩
            have hwB69 : w.heap.size ≤ Bz69 := by rw [hBz69]; exact b62.size
            refine fw_ca Try.func33 rfl rfl rfl (pSend0 cI aoI apI coI cpI W58 hckI.ok (hR _ f66).1 (hR _ f66).2 (Nat.le_trans hbI.2.1 (by decide)) (fun x hx => Nat.le_trans (hbI.2.2 x hx) (by decide)) x0.b ab cb (Nat.le_trans hdl.2 (by decide)) (hsb.below b62) hE hs69) ?_
            rintro _ V69 ⟨ao69, co69, ap69, cp69, al69, cl69, rfl, hM69, hb68⟩
            refine ⟨_, rfl, ?_⟩
            have hT69 := Tch.refl (fun k => k < Bz69) V69
            rw [← hBz69] at hM69
            have hz69 := mine_size hM69
            have b70 := b62.trans (hb68.mono b62.size)
            have r71 := r63.below hb68
            have r72 := r64.below hb68
            have r73 := r65.below hb68
            have r74 := r60.below hb68
            have f75 := (Tch.grow f66 hb68)
            iterate 4 refine fw_pu rfl ?_
            refine fw_st r74 rfl rfl ?_
            intro W76 s77 r78
            have b79 := below_chg b70 s77 (by omega) b70.size
            have r80 := r71.chg s77 (by omega)
            have r81 := r72.chg s77 (by omega)
            have r82 := r73.chg s77 (by omega)
            have f83 := (Tch.chg f75 s77 (.inr (by omega)))
            have f84 := (Tch.chg hT69 s77 (.inl (by omega)))
            iterate 2 refine fw_pu rfl ?_
            refine fw_dn ?_
            refine fw_bn ?_
            refine fw_th ?_
            refine fw_sq ?_
            refine fw_sq ?_
            refine fw_rg rfl ?_
            refine fw_pu rfl ?_
            refine fw_ca Try.func38 rfl rfl rfl ((num16_any 0 W76)) ?_
            rintro _ _ ⟨rfl, rfl⟩
            refine ⟨(.int .i64 0), rfl, ?_⟩
            refine fw_pu rfl ?_
            refine fw_dt ?_
            refine fw_cF rfl rfl ?_
            refine fw_sk ?_
            refine fw_th ?_
            refine fw_sq ?_
            refine fw_sq ?_
            refine fw_rg rfl ?_
            refine fw_ld r78 rfl rfl ?_
            refine fw_ca Try.func31 rfl rfl rfl ((rconn_any c69 ao69 ap69 co69 cp69 W76 (mine_reads hM69 f84).2.1 (Nat.le_trans hbd69.1.2.1 (by decide)) (fun x hx => Nat.le_trans (hbd69.1.2.2 x hx) (by decide)))) ?_
            rintro _ V86 ⟨rfl, hb85⟩
            refine ⟨(.bool (okC c69)), rfl, ?_⟩
            have b87 := b79.trans (hb85.mono b79.size)
            have r88 := r80.below hb85
            have r89 := r81.below hb85
            have r90 := r82.below hb85
            have r91 := r78.below hb85
            have f92 := (Tch.grow f83 hb85)
            have f93 := (Tch.grow f84 hb85)
            iterate 2 refine fw_pu rfl ?_
            refine fw_kn 82 rfl (not_of hck69.1.ok) ?_
            refine fw_pu rfl ?_
            refine fw_ld r91 rfl rfl ?_
            refine fw_pu rfl ?_
            refine fw_ld r89 rfl rfl ?_
            iterate 3 refine fw_pu rfl ?_
            refine fw_kn 89 rfl (not_of (beq_iff_eq.2 hck69.2.1.l)) ?_
            refine fw_pu rfl ?_
            refine fw_ld r91 rfl rfl ?_
            refine fw_pu rfl ?_
            refine fw_ld r89 rfl rfl ?_
            iterate 3 refine fw_pu rfl ?_
            refine fw_kn 96 rfl (not_of (beq_iff_eq.2 hck69.2.1.i)) ?_
            refine fw_pu rfl ?_
            refine fw_ld r91 rfl rfl ?_
            refine fw_pu rfl ?_
            refine fw_ld r89 rfl rfl ?_
            iterate 3 refine fw_pu rfl ?_
            refine fw_kn 103 rfl (not_of (beq_iff_eq.2 hck69.2.1.p)) ?_
            refine fw_pu rfl ?_
            refine fw_ld r91 rfl rfl ?_
            refine fw_pu rfl ?_
            refine fw_ld r89 rfl rfl ?_
            iterate 2 refine fw_pu rfl ?_
            refine fw_dt ?_
            refine fw_fg [(1, _), (3, _), (4, _), (6, _), (7, _), (109, _)] ⟨rfl, rfl, rfl, rfl, rfl, rfl, trivial⟩ ?_
            refine fw_cF rfl (not_of (beq_iff_eq.2 hck69.2.1.o)) ?_
            refine fw_sk ?_
            refine fw_th ?_
            refine fw_sq ?_
            refine fw_sq ?_
            refine fw_rg rfl ?_
            refine fw_pu rfl ?_
            refine fw_dt ?_
            refine fw_bk ?_
            have hlen : l69.length ≤ 100000 := hbd69.2.1
            have hSL := (mine_reads hM69 f93).2.2.1
            obtain ⟨WL, hWL⟩ : ∃ x, x = V86 := ⟨_, rfl⟩
            rw [← hWL] at hSL
            have hbL0 : Below WL.heap.size WL V86 := by rw [hWL]; exact Below.refl _ _
            refine fw_lp (fun N K W => ∃ (j : Nat), N = l69.length - j ∧ j ≤ l69.length ∧ K = [(1, .pointer (some ⟨q1, 0, none⟩)), (3, .pointer (some ⟨q22, 0, none⟩)), (4, .int .i64 ((i : Nat) : Int)), (6, .pointer (some ⟨q57, 0, none⟩)), (7, .slice al69 l69.length cl69), (9, .int .i64 ((j : Nat) : Int))] ∧ Below w.heap.size w W ∧ RowAt W q1 [.int .i64 c.link, .int .i64 c.ip, .int .i64 c.pp, .int .i64 c.po, .int .i64 c.st, .int .i64 c.una, .int .i64 c.nxt, .int .i64 c.win, .slice ao c.out.length co, .int .i64 c.rn, .slice ap c.ps.length cp, .bool c.cl, .bool c.tm.on, .int .i64 c.tm.left, .int .i64 c.tm.wait, .int .i64 c.tm.tries, .slice ac C.length cc] ∧ RowAt W q22 [.int .i64 cI.link, .int .i64 cI.ip, .int .i64 cI.pp, .int .i64 cI.po, .int .i64 cI.st, .int .i64 cI.una, .int .i64 cI.nxt, .int .i64 cI.win, .slice aoI cI.out.length coI, .int .i64 cI.rn, .slice apI cI.ps.length cpI, .bool cI.cl, .bool cI.tm.on, .int .i64 cI.tm.left, .int .i64 cI.tm.wait, .int .i64 cI.tm.tries] ∧ RowAt W q41 [.int .i64 x0.d, .int .i64 x0.n, .int .i64 x0.m, .int .i64 x0.s.sp, .int .i64 x0.s.dp, .int .i64 x0.s.sq, .int .i64 x0.s.ak, .int .i64 x0.s.fl, .int .i64 x0.s.wn, .slice ad x0.s.d.length cd, .bool x0.f, .slice ab x0.b.length cb] ∧ RowAt W q57 [.int .i64 c69.link, .int .i64 c69.ip, .int .i64 c69.pp, .int .i64 c69.po, .int .i64 c69.st, .int .i64 c69.una, .int .i64 c69.nxt, .int .i64 c69.win, .slice ao69 c69.out.length co69, .int .i64 c69.rn, .slice ap69 c69.ps.length cp69, .bool c69.cl, .bool c69.tm.on, .int .i64 c69.tm.left, .int .i64 c69.tm.wait, .int .i64 c69.tm.tries] ∧ Tch (fun k => k < BB) WB W ∧ Tch (fun k => k < Bz69) V69 W ∧ Below WL.heap.size WL W) _ _ ⟨0, rfl, (Nat.zero_le _), rfl, b87, r88, r89, r90, r91, f92, f93, hbL0⟩ ⟨rfl, rfl, rfl, rfl, rfl, (by first | rfl | (simp only [Look, cond, Nat.beq]; first | rfl | (congr 2; first | rfl | omega | (push_cast; omega)) | (simp; try omega))), trivial⟩ ?_
            rintro N _ W94 ⟨j, rfl, hjl, rfl, bW94, rW94_0, rW94_1, rW94_2, rW94_3, fW94_0, fW94_1, fW94_2⟩
            intro K96 hK96
            refine fw_sq ?_
            refine fw_sq ?_
            refine fw_rg rfl ?_
            iterate 4 refine fw_pu rfl ?_
            refine fw_dt ?_
            rcases Bool.eq_false_or_eq_true ((decide (((j : Nat) : Int) < ((l69.length : Nat) : Int)))) with hb_97 | hb_97
            · skip
              refine fw_cT rfl hb_97 ?_
              refine fw_sk ?_
              refine fw_th ?_
              refine fw_sq ?_
              refine fw_bk ?_
              refine fw_sq ?_
              have hjP : j < l69.length := by have h := of_decide_eq_true hb_97; omega
              obtain ⟨x1, hx1⟩ : ∃ p, l69[j]? = some p := ⟨_, List.getElem?_eq_getElem hjP⟩
              obtain ⟨aoS, cpS, heS, -, -, -, hSB⟩ := hSL
              simp only [Value.slice.injEq, true_and] at heS
              obtain ⟨rfl, rfl⟩ := heS
              obtain ⟨bS, oS, haS, hbS, hcS⟩ := hSB (fun e => by rw [e] at hjP; simp at hjP)
              obtain ⟨vS, hsdS, hcaS⟩ := hcS j x1 hx1
              have hsdS2 : Sl WL vS x1.d := hsdS
              obtain ⟨aS, cS, rfl⟩ := Sl.form hsdS2
              have hseg := hck69.2.2 x1 (List.mem_of_getElem? hx1)
              refine fw_hr (fun X => Below w.heap.size w X ∧ RowAt X q1 [.int .i64 c.link, .int .i64 c.ip, .int .i64 c.pp, .int .i64 c.po, .int .i64 c.st, .int .i64 c.una, .int .i64 c.nxt, .int .i64 c.win, .slice ao c.out.length co, .int .i64 c.rn, .slice ap c.ps.length cp, .bool c.cl, .bool c.tm.on, .int .i64 c.tm.left, .int .i64 c.tm.wait, .int .i64 c.tm.tries, .slice ac C.length cc] ∧ RowAt X q22 [.int .i64 cI.link, .int .i64 cI.ip, .int .i64 cI.pp, .int .i64 cI.po, .int .i64 cI.st, .int .i64 cI.una, .int .i64 cI.nxt, .int .i64 cI.win, .slice aoI cI.out.length coI, .int .i64 cI.rn, .slice apI cI.ps.length cpI, .bool cI.cl, .bool cI.tm.on, .int .i64 cI.tm.left, .int .i64 cI.tm.wait, .int .i64 cI.tm.tries] ∧ RowAt X q41 [.int .i64 x0.d, .int .i64 x0.n, .int .i64 x0.m, .int .i64 x0.s.sp, .int .i64 x0.s.dp, .int .i64 x0.s.sq, .int .i64 x0.s.ak, .int .i64 x0.s.fl, .int .i64 x0.s.wn, .slice ad x0.s.d.length cd, .bool x0.f, .slice ab x0.b.length cb] ∧ RowAt X q57 [.int .i64 c69.link, .int .i64 c69.ip, .int .i64 c69.pp, .int .i64 c69.po, .int .i64 c69.st, .int .i64 c69.una, .int .i64 c69.nxt, .int .i64 c69.win, .slice ao69 c69.out.length co69, .int .i64 c69.rn, .slice ap69 c69.ps.length cp69, .bool c69.cl, .bool c69.tm.on, .int .i64 c69.tm.left, .int .i64 c69.tm.wait, .int .i64 c69.tm.tries] ∧ Tch (fun k => k < BB) WB X ∧ Tch (fun k => k < Bz69) V69 X ∧ Below WL.heap.size WL X) (by kernel_rfl) 35 rfl ?_
              intro W98 s99
              have b100 := bW94.trans (s99.mono bW94.size)
              have r101 := rW94_0.below s99
              have r102 := rW94_1.below s99
              have r103 := rW94_2.below s99
              have r104 := rW94_3.below s99
              have f105 := (Tch.grow fW94_0 s99)
              have f106 := (Tch.grow fW94_1 s99)
              have f107 := (Below.trans fW94_2 (Below.mono s99 fW94_2.size))
              refine ⟨⟨b100, r101, r102, r103, r104, f105, f106, f107⟩, ?_⟩
              refine fw_tk 0 rfl rfl (by kernel_rfl) (fun _ _ _ _ _ h => h) ?_
              refine fw_tk 1 rfl rfl (by kernel_rfl) (fun _ _ _ _ _ h => h) ?_
              refine fw_tx 2 118 (.pointer (some ⟨bS, (oS + j * 7), none⟩)) rfl rfl rfl rfl (fun a h W hW => by obtain ⟨b100, r101, r102, r103, r104, f105, f106, f107⟩ := hW; exact (run_indexOp (h.ev rfl) (h.ev rfl) (by rw [haS]; exact idxSegJ _ _ _ _ _ hjP _))) (by kernel_rfl) (fun _ _ _ _ _ h => h) ?_
              refine fw_tx 3 119 (.agg #[.int .i64 x1.sp, .int .i64 x1.dp, .int .i64 x1.sq, .int .i64 x1.ak, .int .i64 x1.fl, .int .i64 x1.wn, .slice aS x1.d.length cS]) rfl rfl rfl rfl (fun a h W hW => by obtain ⟨b100, r101, r102, r103, r104, f105, f106, f107⟩ := hW; exact (run_loadOp (h.ev rfl) (seg_load x1 (.slice aS x1.d.length cS) bS _ _ (fun j u hj => (Below.cell f107 (p := ⟨bS, _, none⟩) hbS).trans (hcaS j u hj))))) (by kernel_rfl) (fun _ _ _ _ _ h => h) ?_
              refine fw_o1 4 (by kernel_rfl) ?_
              refine fw_oc rfl Try.func39 rfl rfl rfl ((rseg12_any x1 aS cS W98)) ?_
              rintro _ V109 ⟨rfl, hb108⟩
              refine ⟨(.bool (rsegB x1)), rfl, ?_⟩
              have b110 := b100.trans (hb108.mono b100.size)
              have r111 := r101.below hb108
              have r112 := r102.below hb108
              have r113 := r103.below hb108
              have r114 := r104.below hb108
              have f115 := (Tch.grow f105 hb108)
              have f116 := (Tch.grow f106 hb108)
              have f117 := (Below.trans f107 (Below.mono hb108 f107.size))
              refine ⟨⟨b110, r111, r112, r113, r114, f115, f116, f117⟩, ?_⟩
              refine fw_tk 5 rfl rfl (by kernel_rfl) (fun _ _ _ _ _ h => h) ?_
              refine fw_tk 6 rfl rfl (by kernel_rfl) (fun _ _ _ _ _ h => h) ?_
              refine fw_kh 122 rfl (not_of ((rsegB_ok x1).trans hseg.1)) ?_
              refine fw_tk 7 rfl rfl (by kernel_rfl) (fun _ _ _ _ _ h => h) ?_
              refine fw_tk 8 rfl rfl (by kernel_rfl) (fun _ _ _ _ _ h => h) ?_
              refine fw_tx 9 125 (.pointer (some ⟨bS, (oS + j * 7), none⟩)) rfl rfl rfl rfl (fun a h W hW => by obtain ⟨b110, r111, r112, r113, r114, f115, f116, f117⟩ := hW; exact (run_indexOp (h.ev rfl) (h.ev rfl) (by rw [haS]; exact idxSegJ _ _ _ _ _ hjP _))) (by kernel_rfl) (fun _ _ _ _ _ h => h) ?_
              refine fw_tk 10 rfl rfl (by kernel_rfl) (fun _ _ _ _ _ h => h) ?_
              refine fw_tx 11 127 (.int .i64 x1.sp) rfl rfl rfl rfl (fun a h W hW => by obtain ⟨b110, r111, r112, r113, r114, f115, f116, f117⟩ := hW; exact (run_loadOp (h.ev rfl) (by simp [go_sem, Instr.loadAt, (Below.cell f117 (p := ⟨bS, oS + j * 7, none⟩) hbS).trans (hcaS 0 _ rfl)]))) (by kernel_rfl) (fun _ _ _ _ _ h => h) ?_
              refine fw_tk 12 rfl rfl (by kernel_rfl) (fun _ _ _ _ _ h => h) ?_
              refine fw_tl 13 (fun _ h => h.2.2.1) rfl rfl rfl (by kernel_rfl) (fun _ _ _ _ _ h => h) ?_
              refine fw_tk 14 rfl rfl (by kernel_rfl) (fun _ _ _ _ _ h => h) ?_
              refine fw_tk 15 rfl rfl (by kernel_rfl) (fun _ _ _ _ _ h => h) ?_
              refine fw_tk 16 rfl rfl (by kernel_rfl) (fun _ _ _ _ _ h => h) ?_
              refine fw_kh 132 rfl (not_of (beq_iff_eq.2 hseg.2.1)) ?_
              refine fw_tk 17 rfl rfl (by kernel_rfl) (fun _ _ _ _ _ h => h) ?_
              refine fw_tk 18 rfl rfl (by kernel_rfl) (fun _ _ _ _ _ h => h) ?_
              refine fw_tx 19 135 (.pointer (some ⟨bS, (oS + j * 7), none⟩)) rfl rfl rfl rfl (fun a h W hW => by obtain ⟨b110, r111, r112, r113, r114, f115, f116, f117⟩ := hW; exact (run_indexOp (h.ev rfl) (h.ev rfl) (by rw [haS]; exact idxSegJ _ _ _ _ _ hjP _))) (by kernel_rfl) (fun _ _ _ _ _ h => h) ?_
              refine fw_tk 20 rfl rfl (by kernel_rfl) (fun _ _ _ _ _ h => h) ?_
              refine fw_tx 21 137 (.int .i64 x1.dp) rfl rfl rfl rfl (fun a h W hW => by obtain ⟨b110, r111, r112, r113, r114, f115, f116, f117⟩ := hW; exact (run_loadOp (h.ev rfl) (by simp [go_sem, Instr.loadAt, (Below.cell f117 (p := ⟨bS, oS + j * 7 + 1, none⟩) hbS).trans (hcaS 1 _ rfl)]))) (by kernel_rfl) (fun _ _ _ _ _ h => h) ?_
              refine fw_tk 22 rfl rfl (by kernel_rfl) (fun _ _ _ _ _ h => h) ?_
              refine fw_tl 23 (fun _ h => h.2.2.1) rfl rfl rfl (by kernel_rfl) (fun _ _ _ _ _ h => h) ?_
              refine fw_tk 24 rfl rfl (by kernel_rfl) (fun _ _ _ _ _ h => h) ?_
              refine fw_tk 25 rfl rfl (by kernel_rfl) (fun _ _ _ _ _ h => h) ?_
              refine fw_tk 26 rfl rfl (by kernel_rfl) (fun _ _ _ _ _ h => h) ?_
              refine fw_kh 142 rfl (not_of (beq_iff_eq.2 hseg.2.2.1)) ?_
              refine fw_tk 27 rfl rfl (by kernel_rfl) (fun _ _ _ _ _ h => h) ?_
              refine fw_tk 28 rfl rfl (by kernel_rfl) (fun _ _ _ _ _ h => h) ?_
              refine fw_tx 29 145 (.pointer (some ⟨bS, (oS + j * 7), none⟩)) rfl rfl rfl rfl (fun a h W hW => by obtain ⟨b110, r111, r112, r113, r114, f115, f116, f117⟩ := hW; exact (run_indexOp (h.ev rfl) (h.ev rfl) (by rw [haS]; exact idxSegJ _ _ _ _ _ hjP _))) (by kernel_rfl) (fun _ _ _ _ _ h => h) ?_
              refine fw_tk 30 rfl rfl (by kernel_rfl) (fun _ _ _ _ _ h => h) ?_
              refine fw_tx 31 147 (.slice aS x1.d.length cS) rfl rfl rfl rfl (fun a h W hW => by obtain ⟨b110, r111, r112, r113, r114, f115, f116, f117⟩ := hW; exact (run_loadOp (h.ev rfl) (by simp [go_sem, Instr.loadAt, (Below.cell f117 (p := ⟨bS, oS + j * 7 + 6, none⟩) hbS).trans (hcaS 6 _ rfl)]))) (by kernel_rfl) (fun _ _ _ _ _ h => h) ?_
              refine fw_tk 32 rfl rfl (by kernel_rfl) (fun _ _ _ _ _ h => h) ?_
              refine fw_tk 33 rfl rfl (by kernel_rfl) (fun _ _ _ _ _ h => h) ?_
              refine fw_tk 34 rfl rfl (by kernel_rfl) (fun _ _ _ _ _ h => h) ?_
              refine fw_ht (by kernel_rfl) ?_
              refine fw_cF rfl (decide_eq_false (by have := hseg.2.2.2; omega)) ?_
              refine fw_sk ?_
              refine fw_bn ?_
              refine fw_th ?_
              refine fw_rg rfl ?_
              refine fw_pu rfl ?_
              refine fw_ex 115 (.int .i64 (((j + 1) : Nat) : Int)) rfl rfl rfl (fun a h => (run_binOp (h.ev rfl) (h.ev rfl) (by simp [go_sem]) (addIw _ _ _ _ (by omega) (by omega) (by omega)))) ?_
              refine fw_pu rfl ?_
              refine fw_dn ?_
              exact fw_th (fw_gf (hK96 _ _ _ (by omega) ⟨(j + 1), rfl, hjP, rfl, b110, r111, r112, r113, r114, f115, f116, f117⟩) ⟨rfl, rfl, rfl, rfl, rfl, (by first | rfl | (simp only [Look, cond, Nat.beq]; first | rfl | (congr 2; first | rfl | omega | (push_cast; omega)) | (simp; try omega))), trivial⟩)
            refine fw_cF rfl hb_97 ?_
            refine fw_xt ?_
            refine fw_te ?_
            refine fw_te ?_
            refine fw_be ?_
            refine fw_th ?_
            refine fw_rg rfl ?_
            refine fw_ld rW94_3 rfl rfl ?_
            have := rW94_0.2.2
            have := rW94_1.2.2
            have := rW94_2.2.2
            have := rW94_3.2.2
            obtain ⟨Bzn120, hBzn120⟩ : ∃ x, x = W94.heap.size := ⟨_, rfl⟩
            have hwBn120 : w.heap.size ≤ Bzn120 := by rw [hBzn120]; exact bW94.size
            refine fw_ca Try.func32 rfl rfl rfl (copyConn_t c69 ao69 ap69 co69 cp69 W94 hbd69.1 (mine_reads hM69 fW94_1).1 (mine_reads hM69 fW94_1).2.1) ?_
            rintro _ V119 ⟨aon120, con120, apn120, cpn120, rfl, hb118, hRn120⟩
            refine ⟨_, rfl, ?_⟩
            have hTn120 := Tch.refl (fun k => k < Bzn120) V119
            rw [← hBzn120] at hRn120
            have b121 := bW94.trans (hb118.mono bW94.size)
            have r122 := rW94_0.below hb118
            have r123 := rW94_1.below hb118
            have r124 := rW94_2.below hb118
            have r125 := rW94_3.below hb118
            have f126 := (Below.trans fW94_2 (Below.mono hb118 fW94_2.size))
            refine fw_st r123 rfl rfl ?_
            intro W127 s128 r129
            have b130 := below_chg b121 s128 (by omega) b121.size
            have r131 := r122.chg s128 (by omega)
            have r132 := r124.chg s128 (by omega)
            have r133 := r125.chg s128 (by omega)
            have f134 := (Tch.chg hTn120 s128 (.inl (by omega)))
            refine fw_dn ?_
            refine fw_bn ?_
            refine fw_th ?_
            refine fw_rg rfl ?_
            refine fw_pu rfl ?_
            refine fw_ex 31 (.int .i64 (((i + 1) : Nat) : Int)) rfl rfl rfl (fun a h => (run_binOp (h.ev rfl) (h.ev rfl) (by simp [go_sem]) (addIw _ _ _ _ (by omega) (by omega) (by omega)))) ?_
            refine fw_pu rfl ?_
            refine fw_dn ?_
            exact fw_th (fw_gf (hK38 _ _ _ (by omega) ⟨(i + 1), c69, aon120, apn120, con120, cpn120, Bzn120, V119, rfl, (by omega), hck69.1, hbd69.1, hwBn120, (.inl (by omega)), hRn120, rfl, b130, r131, r129, f134⟩) ⟨rfl, rfl, (by first | rfl | (simp only [Look, cond, Nat.beq]; first | rfl | (congr 2; first | rfl | omega | (push_cast; omega)) | (simp; try omega))), trivial⟩)
          · skip
            refine fw_rg rfl ?_
            refine fw_ld r64 rfl rfl ?_
            refine fw_pu rfl ?_
            refine fw_ld r65 rfl rfl ?_
            refine fw_ca Try.func33 rfl rfl rfl (pSend5 cI aoI apI coI cpI W58 hckI.ok (hR _ f66).1 (hR _ f66).2 (Nat.le_trans hbI.2.1 (by decide)) (fun x hx => Nat.le_trans (hbI.2.2 x hx) (by decide)) x0.b ab cb (Nat.le_trans hdl.2 (by decide)) (hsb.below b62) hE) ?_
            rintro _ Vhb135 ⟨rfl, hb135⟩
            refine ⟨_, rfl, ?_⟩
            have b136 := b62.trans (hb135.mono b62.size)
            have r137 := r63.below hb135
            have r138 := r64.below hb135
            have r139 := r65.below hb135
            have r140 := r60.below hb135
            have f141 := (Tch.grow f66 hb135)
            iterate 4 refine fw_pu rfl ?_
            refine fw_st r140 rfl rfl ?_
            intro W142 s143 r144
            have b145 := below_chg b136 s143 (by omega) b136.size
            have r146 := r137.chg s143 (by omega)
            have r147 := r138.chg s143 (by omega)
            have r148 := r139.chg s143 (by omega)
            have f149 := (Tch.chg f141 s143 (.inr (by omega)))
            iterate 2 refine fw_pu rfl ?_
            refine fw_dn ?_
            refine fw_bn ?_
            refine fw_th ?_
            refine fw_sq ?_
            refine fw_sq ?_
            refine fw_rg rfl ?_
            refine fw_pu rfl ?_
            refine fw_ca Try.func38 rfl rfl rfl ((num16_any 5 W142)) ?_
            rintro _ _ ⟨rfl, rfl⟩
            refine ⟨(.int .i64 5), rfl, ?_⟩
            refine fw_pu rfl ?_
            refine fw_dt ?_
            refine fw_cT rfl rfl ?_
            refine fw_xt ?_
            refine fw_te ?_
            refine fw_be ?_
            refine fw_th ?_
            refine fw_rg rfl ?_
            refine fw_pu rfl ?_
            refine fw_ex 31 (.int .i64 (((i + 1) : Nat) : Int)) rfl rfl rfl (fun a h => (run_binOp (h.ev rfl) (h.ev rfl) (by simp [go_sem]) (addIw _ _ _ _ (by omega) (by omega) (by omega)))) ?_
            refine fw_pu rfl ?_
            refine fw_dn ?_
            exact fw_th (fw_gf (hK38 _ _ _ (by omega) ⟨(i + 1), cI, aoI, apI, coI, cpI, BB, WB, rfl, (by omega), hckI, hbI, hwBB, hqBB, hR, rfl, b145, r146, r147, f149⟩) ⟨rfl, rfl, (by first | rfl | (simp only [Look, cond, Nat.beq]; first | rfl | (congr 2; first | rfl | omega | (push_cast; omega)) | (simp; try omega))), trivial⟩)
          refine fw_rg rfl ?_
          refine fw_ld r64 rfl rfl ?_
          refine fw_pu rfl ?_
          refine fw_ld r65 rfl rfl ?_
          refine fw_ca Try.func33 rfl rfl rfl (pSend6 cI aoI apI coI cpI W58 hckI.ok (hR _ f66).1 (hR _ f66).2 (Nat.le_trans hbI.2.1 (by decide)) (fun x hx => Nat.le_trans (hbI.2.2 x hx) (by decide)) x0.b ab cb (Nat.le_trans hdl.2 (by decide)) (hsb.below b62) hE) ?_
          rintro _ Vhb150 ⟨rfl, hb150⟩
          refine ⟨_, rfl, ?_⟩
          have b151 := b62.trans (hb150.mono b62.size)
          have r152 := r63.below hb150
          have r153 := r64.below hb150
          have r154 := r65.below hb150
          have r155 := r60.below hb150
          have f156 := (Tch.grow f66 hb150)
          iterate 4 refine fw_pu rfl ?_
          refine fw_st r155 rfl rfl ?_
          intro W157 s158 r159
          have b160 := below_chg b151 s158 (by omega) b151.size
          have r161 := r152.chg s158 (by omega)
          have r162 := r153.chg s158 (by omega)
          have r163 := r154.chg s158 (by omega)
          have f164 := (Tch.chg f156 s158 (.inr (by omega)))
          iterate 2 refine fw_pu rfl ?_
          refine fw_dn ?_
          refine fw_bn ?_
          refine fw_th ?_
          refine fw_sq ?_
          refine fw_sq ?_
          refine fw_rg rfl ?_
          refine fw_pu rfl ?_
          refine fw_ca Try.func38 rfl rfl rfl ((num16_any 6 W157)) ?_
          rintro _ _ ⟨rfl, rfl⟩
          refine ⟨(.int .i64 6), rfl, ?_⟩
          refine fw_pu rfl ?_
          refine fw_dt ?_
          refine fw_cT rfl rfl ?_
          refine fw_xt ?_
          refine fw_te ?_
          refine fw_be ?_
          refine fw_th ?_
          refine fw_rg rfl ?_
          refine fw_pu rfl ?_
          refine fw_ex 31 (.int .i64 (((i + 1) : Nat) : Int)) rfl rfl rfl (fun a h => (run_binOp (h.ev rfl) (h.ev rfl) (by simp [go_sem]) (addIw _ _ _ _ (by omega) (by omega) (by omega)))) ?_
          refine fw_pu rfl ?_
          refine fw_dn ?_
          exact fw_th (fw_gf (hK38 _ _ _ (by omega) ⟨(i + 1), cI, aoI, apI, coI, cpI, BB, WB, rfl, (by omega), hckI, hbI, hwBB, hqBB, hR, rfl, b160, r161, r162, f164⟩) ⟨rfl, rfl, (by first | rfl | (simp only [Look, cond, Nat.beq]; first | rfl | (congr 2; first | rfl | omega | (push_cast; omega)) | (simp; try omega))), trivial⟩)
        refine fw_cF rfl hb_67 ?_
        refine fw_sq ?_
        refine fw_rg rfl ?_
        iterate 2 refine fw_pu rfl ?_
        refine fw_dt ?_
        rcases Bool.eq_false_or_eq_true (((within x0.d 5) == 1)) with hb_165 | hb_165
        · skip
          refine fw_cT rfl hb_165 ?_
          rcases closeE_2 cI with hE | hE
          · skip
            refine fw_rg rfl ?_
            refine fw_ld r64 rfl rfl ?_
            obtain ⟨⟨c167, l167⟩, hs167⟩ : ∃ x, pumpS { cI with cl := true } [] = x := ⟨_, rfl⟩
            have hck167 := close_ck hckI
            have hbd167 := bd_close hbI
            rw [hs167] at hck167 hbd167
            have hqB167 := (f66).size
            have := r63.2.2
            have := r64.2.2
            have := r65.2.2
            have := r60.2.2
            obtain ⟨Bz167, hBz167⟩ : ∃ x, x = W58.heap.size := ⟨_, rfl⟩
            have hwB167 : w.heap.size ≤ Bz167 := by rw [hBz167]; exact b62.size
            refine fw_ca Try.func34 rfl rfl rfl (pClose cI aoI apI coI cpI W58 hckI.ok (hR _ f66).1 (hR _ f66).2 (Nat.le_trans hbI.2.1 (by decide)) (fun x hx => Nat.le_trans (hbI.2.2 x hx) (by decide)) hE hs167) ?_
            rintro _ V167 ⟨ao167, co167, ap167, cp167, al167, cl167, rfl, hM167, hb166⟩
            refine ⟨_, rfl, ?_⟩
            have hT167 := Tch.refl (fun k => k < Bz167) V167
            rw [← hBz167] at hM167
            have hz167 := mine_size hM167
            have b168 := b62.trans (hb166.mono b62.size)
            have r169 := r63.below hb166
            have r170 := r64.below hb166
            have r171 := r65.below hb166
            have r172 := r60.below hb166
            have f173 := (Tch.grow f66 hb166)
            iterate 4 refine fw_pu rfl ?_
            refine fw_st r172 rfl rfl ?_
            intro W174 s175 r176
            have b177 := below_chg b168 s175 (by omega) b168.size
            have r178 := r169.chg s175 (by omega)
            have r179 := r170.chg s175 (by omega)
            have r180 := r171.chg s175 (by omega)
            have f181 := (Tch.chg f173 s175 (.inr (by omega)))
            have f182 := (Tch.chg hT167 s175 (.inl (by omega)))
            iterate 2 refine fw_pu rfl ?_
            refine fw_dn ?_
            refine fw_bn ?_
            refine fw_th ?_
            refine fw_sq ?_
            refine fw_sq ?_
            refine fw_rg rfl ?_
            refine fw_pu rfl ?_
            refine fw_ca Try.func38 rfl rfl rfl ((num16_any 0 W174)) ?_
            rintro _ _ ⟨rfl, rfl⟩
            refine ⟨(.int .i64 0), rfl, ?_⟩
            refine fw_pu rfl ?_
            refine fw_dt ?_
            refine fw_cF rfl rfl ?_
            refine fw_sk ?_
            refine fw_th ?_
            refine fw_sq ?_
            refine fw_sq ?_
            refine fw_rg rfl ?_
            refine fw_ld r176 rfl rfl ?_
            refine fw_ca Try.func31 rfl rfl rfl ((rconn_any c167 ao167 ap167 co167 cp167 W174 (mine_reads hM167 f182).2.1 (Nat.le_trans hbd167.1.2.1 (by decide)) (fun x hx => Nat.le_trans (hbd167.1.2.2 x hx) (by decide)))) ?_
            rintro _ V184 ⟨rfl, hb183⟩
            refine ⟨(.bool (okC c167)), rfl, ?_⟩
            have b185 := b177.trans (hb183.mono b177.size)
            have r186 := r178.below hb183
            have r187 := r179.below hb183
            have r188 := r180.below hb183
            have r189 := r176.below hb183
            have f190 := (Tch.grow f181 hb183)
            have f191 := (Tch.grow f182 hb183)
            iterate 2 refine fw_pu rfl ?_
            refine fw_kn 82 rfl (not_of hck167.1.ok) ?_
            refine fw_pu rfl ?_
            refine fw_ld r189 rfl rfl ?_
            refine fw_pu rfl ?_
            refine fw_ld r187 rfl rfl ?_
            iterate 3 refine fw_pu rfl ?_
            refine fw_kn 89 rfl (not_of (beq_iff_eq.2 hck167.2.1.l)) ?_
            refine fw_pu rfl ?_
            refine fw_ld r189 rfl rfl ?_
            refine fw_pu rfl ?_
            refine fw_ld r187 rfl rfl ?_
            iterate 3 refine fw_pu rfl ?_
            refine fw_kn 96 rfl (not_of (beq_iff_eq.2 hck167.2.1.i)) ?_
            refine fw_pu rfl ?_
            refine fw_ld r189 rfl rfl ?_
            refine fw_pu rfl ?_
            refine fw_ld r187 rfl rfl ?_
            iterate 3 refine fw_pu rfl ?_
            refine fw_kn 103 rfl (not_of (beq_iff_eq.2 hck167.2.1.p)) ?_
            refine fw_pu rfl ?_
            refine fw_ld r189 rfl rfl ?_
            refine fw_pu rfl ?_
            refine fw_ld r187 rfl rfl ?_
            iterate 2 refine fw_pu rfl ?_
            refine fw_dt ?_
            refine fw_fg [(1, _), (3, _), (4, _), (6, _), (7, _), (109, _)] ⟨rfl, rfl, rfl, rfl, rfl, rfl, trivial⟩ ?_
            refine fw_cF rfl (not_of (beq_iff_eq.2 hck167.2.1.o)) ?_
            refine fw_sk ?_
            refine fw_th ?_
            refine fw_sq ?_
            refine fw_sq ?_
            refine fw_rg rfl ?_
            refine fw_pu rfl ?_
            refine fw_dt ?_
            refine fw_bk ?_
            have hlen : l167.length ≤ 100000 := hbd167.2.1
            have hSL := (mine_reads hM167 f191).2.2.1
            obtain ⟨WL, hWL⟩ : ∃ x, x = V184 := ⟨_, rfl⟩
            rw [← hWL] at hSL
            have hbL0 : Below WL.heap.size WL V184 := by rw [hWL]; exact Below.refl _ _
            refine fw_lp (fun N K W => ∃ (j : Nat), N = l167.length - j ∧ j ≤ l167.length ∧ K = [(1, .pointer (some ⟨q1, 0, none⟩)), (3, .pointer (some ⟨q22, 0, none⟩)), (4, .int .i64 ((i : Nat) : Int)), (6, .pointer (some ⟨q57, 0, none⟩)), (7, .slice al167 l167.length cl167), (9, .int .i64 ((j : Nat) : Int))] ∧ Below w.heap.size w W ∧ RowAt W q1 [.int .i64 c.link, .int .i64 c.ip, .int .i64 c.pp, .int .i64 c.po, .int .i64 c.st, .int .i64 c.una, .int .i64 c.nxt, .int .i64 c.win, .slice ao c.out.length co, .int .i64 c.rn, .slice ap c.ps.length cp, .bool c.cl, .bool c.tm.on, .int .i64 c.tm.left, .int .i64 c.tm.wait, .int .i64 c.tm.tries, .slice ac C.length cc] ∧ RowAt W q22 [.int .i64 cI.link, .int .i64 cI.ip, .int .i64 cI.pp, .int .i64 cI.po, .int .i64 cI.st, .int .i64 cI.una, .int .i64 cI.nxt, .int .i64 cI.win, .slice aoI cI.out.length coI, .int .i64 cI.rn, .slice apI cI.ps.length cpI, .bool cI.cl, .bool cI.tm.on, .int .i64 cI.tm.left, .int .i64 cI.tm.wait, .int .i64 cI.tm.tries] ∧ RowAt W q41 [.int .i64 x0.d, .int .i64 x0.n, .int .i64 x0.m, .int .i64 x0.s.sp, .int .i64 x0.s.dp, .int .i64 x0.s.sq, .int .i64 x0.s.ak, .int .i64 x0.s.fl, .int .i64 x0.s.wn, .slice ad x0.s.d.length cd, .bool x0.f, .slice ab x0.b.length cb] ∧ RowAt W q57 [.int .i64 c167.link, .int .i64 c167.ip, .int .i64 c167.pp, .int .i64 c167.po, .int .i64 c167.st, .int .i64 c167.una, .int .i64 c167.nxt, .int .i64 c167.win, .slice ao167 c167.out.length co167, .int .i64 c167.rn, .slice ap167 c167.ps.length cp167, .bool c167.cl, .bool c167.tm.on, .int .i64 c167.tm.left, .int .i64 c167.tm.wait, .int .i64 c167.tm.tries] ∧ Tch (fun k => k < BB) WB W ∧ Tch (fun k => k < Bz167) V167 W ∧ Below WL.heap.size WL W) _ _ ⟨0, rfl, (Nat.zero_le _), rfl, b185, r186, r187, r188, r189, f190, f191, hbL0⟩ ⟨rfl, rfl, rfl, rfl, rfl, (by first | rfl | (simp only [Look, cond, Nat.beq]; first | rfl | (congr 2; first | rfl | omega | (push_cast; omega)) | (simp; try omega))), trivial⟩ ?_
            rintro N _ W192 ⟨j, rfl, hjl, rfl, bW192, rW192_0, rW192_1, rW192_2, rW192_3, fW192_0, fW192_1, fW192_2⟩
            intro K194 hK194
            refine fw_sq ?_
            refine fw_sq ?_
            refine fw_rg rfl ?_
            iterate 4 refine fw_pu rfl ?_
            refine fw_dt ?_
            rcases Bool.eq_false_or_eq_true ((decide (((j : Nat) : Int) < ((l167.length : Nat) : Int)))) with hb_195 | hb_195
            · skip
              refine fw_cT rfl hb_195 ?_
              refine fw_sk ?_
              refine fw_th ?_
              refine fw_sq ?_
              refine fw_bk ?_
              refine fw_sq ?_
              have hjP : j < l167.length := by have h := of_decide_eq_true hb_195; omega
              obtain ⟨x1, hx1⟩ : ∃ p, l167[j]? = some p := ⟨_, List.getElem?_eq_getElem hjP⟩
              obtain ⟨aoS, cpS, heS, -, -, -, hSB⟩ := hSL
              simp only [Value.slice.injEq, true_and] at heS
              obtain ⟨rfl, rfl⟩ := heS
              obtain ⟨bS, oS, haS, hbS, hcS⟩ := hSB (fun e => by rw [e] at hjP; simp at hjP)
              obtain ⟨vS, hsdS, hcaS⟩ := hcS j x1 hx1
              have hsdS2 : Sl WL vS x1.d := hsdS
              obtain ⟨aS, cS, rfl⟩ := Sl.form hsdS2
              have hseg := hck167.2.2 x1 (List.mem_of_getElem? hx1)
              refine fw_hr (fun X => Below w.heap.size w X ∧ RowAt X q1 [.int .i64 c.link, .int .i64 c.ip, .int .i64 c.pp, .int .i64 c.po, .int .i64 c.st, .int .i64 c.una, .int .i64 c.nxt, .int .i64 c.win, .slice ao c.out.length co, .int .i64 c.rn, .slice ap c.ps.length cp, .bool c.cl, .bool c.tm.on, .int .i64 c.tm.left, .int .i64 c.tm.wait, .int .i64 c.tm.tries, .slice ac C.length cc] ∧ RowAt X q22 [.int .i64 cI.link, .int .i64 cI.ip, .int .i64 cI.pp, .int .i64 cI.po, .int .i64 cI.st, .int .i64 cI.una, .int .i64 cI.nxt, .int .i64 cI.win, .slice aoI cI.out.length coI, .int .i64 cI.rn, .slice apI cI.ps.length cpI, .bool cI.cl, .bool cI.tm.on, .int .i64 cI.tm.left, .int .i64 cI.tm.wait, .int .i64 cI.tm.tries] ∧ RowAt X q41 [.int .i64 x0.d, .int .i64 x0.n, .int .i64 x0.m, .int .i64 x0.s.sp, .int .i64 x0.s.dp, .int .i64 x0.s.sq, .int .i64 x0.s.ak, .int .i64 x0.s.fl, .int .i64 x0.s.wn, .slice ad x0.s.d.length cd, .bool x0.f, .slice ab x0.b.length cb] ∧ RowAt X q57 [.int .i64 c167.link, .int .i64 c167.ip, .int .i64 c167.pp, .int .i64 c167.po, .int .i64 c167.st, .int .i64 c167.una, .int .i64 c167.nxt, .int .i64 c167.win, .slice ao167 c167.out.length co167, .int .i64 c167.rn, .slice ap167 c167.ps.length cp167, .bool c167.cl, .bool c167.tm.on, .int .i64 c167.tm.left, .int .i64 c167.tm.wait, .int .i64 c167.tm.tries] ∧ Tch (fun k => k < BB) WB X ∧ Tch (fun k => k < Bz167) V167 X ∧ Below WL.heap.size WL X) (by kernel_rfl) 35 rfl ?_
              intro W196 s197
              have b198 := bW192.trans (s197.mono bW192.size)
              have r199 := rW192_0.below s197
              have r200 := rW192_1.below s197
              have r201 := rW192_2.below s197
              have r202 := rW192_3.below s197
              have f203 := (Tch.grow fW192_0 s197)
              have f204 := (Tch.grow fW192_1 s197)
              have f205 := (Below.trans fW192_2 (Below.mono s197 fW192_2.size))
              refine ⟨⟨b198, r199, r200, r201, r202, f203, f204, f205⟩, ?_⟩
              refine fw_tk 0 rfl rfl (by kernel_rfl) (fun _ _ _ _ _ h => h) ?_
              refine fw_tk 1 rfl rfl (by kernel_rfl) (fun _ _ _ _ _ h => h) ?_
              refine fw_tx 2 118 (.pointer (some ⟨bS, (oS + j * 7), none⟩)) rfl rfl rfl rfl (fun a h W hW => by obtain ⟨b198, r199, r200, r201, r202, f203, f204, f205⟩ := hW; exact (run_indexOp (h.ev rfl) (h.ev rfl) (by rw [haS]; exact idxSegJ _ _ _ _ _ hjP _))) (by kernel_rfl) (fun _ _ _ _ _ h => h) ?_
              refine fw_tx 3 119 (.agg #[.int .i64 x1.sp, .int .i64 x1.dp, .int .i64 x1.sq, .int .i64 x1.ak, .int .i64 x1.fl, .int .i64 x1.wn, .slice aS x1.d.length cS]) rfl rfl rfl rfl (fun a h W hW => by obtain ⟨b198, r199, r200, r201, r202, f203, f204, f205⟩ := hW; exact (run_loadOp (h.ev rfl) (seg_load x1 (.slice aS x1.d.length cS) bS _ _ (fun j u hj => (Below.cell f205 (p := ⟨bS, _, none⟩) hbS).trans (hcaS j u hj))))) (by kernel_rfl) (fun _ _ _ _ _ h => h) ?_
              refine fw_o1 4 (by kernel_rfl) ?_
              refine fw_oc rfl Try.func39 rfl rfl rfl ((rseg12_any x1 aS cS W196)) ?_
              rintro _ V207 ⟨rfl, hb206⟩
              refine ⟨(.bool (rsegB x1)), rfl, ?_⟩
              have b208 := b198.trans (hb206.mono b198.size)
              have r209 := r199.below hb206
              have r210 := r200.below hb206
              have r211 := r201.below hb206
              have r212 := r202.below hb206
              have f213 := (Tch.grow f203 hb206)
              have f214 := (Tch.grow f204 hb206)
              have f215 := (Below.trans f205 (Below.mono hb206 f205.size))
              refine ⟨⟨b208, r209, r210, r211, r212, f213, f214, f215⟩, ?_⟩
              refine fw_tk 5 rfl rfl (by kernel_rfl) (fun _ _ _ _ _ h => h) ?_
              refine fw_tk 6 rfl rfl (by kernel_rfl) (fun _ _ _ _ _ h => h) ?_
              refine fw_kh 122 rfl (not_of ((rsegB_ok x1).trans hseg.1)) ?_
              refine fw_tk 7 rfl rfl (by kernel_rfl) (fun _ _ _ _ _ h => h) ?_
              refine fw_tk 8 rfl rfl (by kernel_rfl) (fun _ _ _ _ _ h => h) ?_
              refine fw_tx 9 125 (.pointer (some ⟨bS, (oS + j * 7), none⟩)) rfl rfl rfl rfl (fun a h W hW => by obtain ⟨b208, r209, r210, r211, r212, f213, f214, f215⟩ := hW; exact (run_indexOp (h.ev rfl) (h.ev rfl) (by rw [haS]; exact idxSegJ _ _ _ _ _ hjP _))) (by kernel_rfl) (fun _ _ _ _ _ h => h) ?_
              refine fw_tk 10 rfl rfl (by kernel_rfl) (fun _ _ _ _ _ h => h) ?_
              refine fw_tx 11 127 (.int .i64 x1.sp) rfl rfl rfl rfl (fun a h W hW => by obtain ⟨b208, r209, r210, r211, r212, f213, f214, f215⟩ := hW; exact (run_loadOp (h.ev rfl) (by simp [go_sem, Instr.loadAt, (Below.cell f215 (p := ⟨bS, oS + j * 7, none⟩) hbS).trans (hcaS 0 _ rfl)]))) (by kernel_rfl) (fun _ _ _ _ _ h => h) ?_
              refine fw_tk 12 rfl rfl (by kernel_rfl) (fun _ _ _ _ _ h => h) ?_
              refine fw_tl 13 (fun _ h => h.2.2.1) rfl rfl rfl (by kernel_rfl) (fun _ _ _ _ _ h => h) ?_
              refine fw_tk 14 rfl rfl (by kernel_rfl) (fun _ _ _ _ _ h => h) ?_
              refine fw_tk 15 rfl rfl (by kernel_rfl) (fun _ _ _ _ _ h => h) ?_
              refine fw_tk 16 rfl rfl (by kernel_rfl) (fun _ _ _ _ _ h => h) ?_
              refine fw_kh 132 rfl (not_of (beq_iff_eq.2 hseg.2.1)) ?_
              refine fw_tk 17 rfl rfl (by kernel_rfl) (fun _ _ _ _ _ h => h) ?_
              refine fw_tk 18 rfl rfl (by kernel_rfl) (fun _ _ _ _ _ h => h) ?_
              refine fw_tx 19 135 (.pointer (some ⟨bS, (oS + j * 7), none⟩)) rfl rfl rfl rfl (fun a h W hW => by obtain ⟨b208, r209, r210, r211, r212, f213, f214, f215⟩ := hW; exact (run_indexOp (h.ev rfl) (h.ev rfl) (by rw [haS]; exact idxSegJ _ _ _ _ _ hjP _))) (by kernel_rfl) (fun _ _ _ _ _ h => h) ?_
              refine fw_tk 20 rfl rfl (by kernel_rfl) (fun _ _ _ _ _ h => h) ?_
              refine fw_tx 21 137 (.int .i64 x1.dp) rfl rfl rfl rfl (fun a h W hW => by obtain ⟨b208, r209, r210, r211, r212, f213, f214, f215⟩ := hW; exact (run_loadOp (h.ev rfl) (by simp [go_sem, Instr.loadAt, (Below.cell f215 (p := ⟨bS, oS + j * 7 + 1, none⟩) hbS).trans (hcaS 1 _ rfl)]))) (by kernel_rfl) (fun _ _ _ _ _ h => h) ?_
              refine fw_tk 22 rfl rfl (by kernel_rfl) (fun _ _ _ _ _ h => h) ?_
              refine fw_tl 23 (fun _ h => h.2.2.1) rfl rfl rfl (by kernel_rfl) (fun _ _ _ _ _ h => h) ?_
              refine fw_tk 24 rfl rfl (by kernel_rfl) (fun _ _ _ _ _ h => h) ?_
              refine fw_tk 25 rfl rfl (by kernel_rfl) (fun _ _ _ _ _ h => h) ?_
              refine fw_tk 26 rfl rfl (by kernel_rfl) (fun _ _ _ _ _ h => h) ?_
              refine fw_kh 142 rfl (not_of (beq_iff_eq.2 hseg.2.2.1)) ?_
              refine fw_tk 27 rfl rfl (by kernel_rfl) (fun _ _ _ _ _ h => h) ?_
              refine fw_tk 28 rfl rfl (by kernel_rfl) (fun _ _ _ _ _ h => h) ?_
              refine fw_tx 29 145 (.pointer (some ⟨bS, (oS + j * 7), none⟩)) rfl rfl rfl rfl (fun a h W hW => by obtain ⟨b208, r209, r210, r211, r212, f213, f214, f215⟩ := hW; exact (run_indexOp (h.ev rfl) (h.ev rfl) (by rw [haS]; exact idxSegJ _ _ _ _ _ hjP _))) (by kernel_rfl) (fun _ _ _ _ _ h => h) ?_
              refine fw_tk 30 rfl rfl (by kernel_rfl) (fun _ _ _ _ _ h => h) ?_
              refine fw_tx 31 147 (.slice aS x1.d.length cS) rfl rfl rfl rfl (fun a h W hW => by obtain ⟨b208, r209, r210, r211, r212, f213, f214, f215⟩ := hW; exact (run_loadOp (h.ev rfl) (by simp [go_sem, Instr.loadAt, (Below.cell f215 (p := ⟨bS, oS + j * 7 + 6, none⟩) hbS).trans (hcaS 6 _ rfl)]))) (by kernel_rfl) (fun _ _ _ _ _ h => h) ?_
              refine fw_tk 32 rfl rfl (by kernel_rfl) (fun _ _ _ _ _ h => h) ?_
              refine fw_tk 33 rfl rfl (by kernel_rfl) (fun _ _ _ _ _ h => h) ?_
              refine fw_tk 34 rfl rfl (by kernel_rfl) (fun _ _ _ _ _ h => h) ?_
              refine fw_ht (by kernel_rfl) ?_
              refine fw_cF rfl (decide_eq_false (by have := hseg.2.2.2; omega)) ?_
              refine fw_sk ?_
              refine fw_bn ?_
              refine fw_th ?_
              refine fw_rg rfl ?_
              refine fw_pu rfl ?_
              refine fw_ex 115 (.int .i64 (((j + 1) : Nat) : Int)) rfl rfl rfl (fun a h => (run_binOp (h.ev rfl) (h.ev rfl) (by simp [go_sem]) (addIw _ _ _ _ (by omega) (by omega) (by omega)))) ?_
              refine fw_pu rfl ?_
              refine fw_dn ?_
              exact fw_th (fw_gf (hK194 _ _ _ (by omega) ⟨(j + 1), rfl, hjP, rfl, b208, r209, r210, r211, r212, f213, f214, f215⟩) ⟨rfl, rfl, rfl, rfl, rfl, (by first | rfl | (simp only [Look, cond, Nat.beq]; first | rfl | (congr 2; first | rfl | omega | (push_cast; omega)) | (simp; try omega))), trivial⟩)
            refine fw_cF rfl hb_195 ?_
            refine fw_xt ?_
            refine fw_te ?_
            refine fw_te ?_
            refine fw_be ?_
            refine fw_th ?_
            refine fw_rg rfl ?_
            refine fw_ld rW192_3 rfl rfl ?_
            have := rW192_0.2.2
            have := rW192_1.2.2
            have := rW192_2.2.2
            have := rW192_3.2.2
            obtain ⟨Bzn218, hBzn218⟩ : ∃ x, x = W192.heap.size := ⟨_, rfl⟩
            have hwBn218 : w.heap.size ≤ Bzn218 := by rw [hBzn218]; exact bW192.size
            refine fw_ca Try.func32 rfl rfl rfl (copyConn_t c167 ao167 ap167 co167 cp167 W192 hbd167.1 (mine_reads hM167 fW192_1).1 (mine_reads hM167 fW192_1).2.1) ?_
            rintro _ V217 ⟨aon218, con218, apn218, cpn218, rfl, hb216, hRn218⟩
            refine ⟨_, rfl, ?_⟩
            have hTn218 := Tch.refl (fun k => k < Bzn218) V217
            rw [← hBzn218] at hRn218
            have b219 := bW192.trans (hb216.mono bW192.size)
            have r220 := rW192_0.below hb216
            have r221 := rW192_1.below hb216
            have r222 := rW192_2.below hb216
            have r223 := rW192_3.below hb216
            have f224 := (Below.trans fW192_2 (Below.mono hb216 fW192_2.size))
            refine fw_st r221 rfl rfl ?_
            intro W225 s226 r227
            have b228 := below_chg b219 s226 (by omega) b219.size
            have r229 := r220.chg s226 (by omega)
            have r230 := r222.chg s226 (by omega)
            have r231 := r223.chg s226 (by omega)
            have f232 := (Tch.chg hTn218 s226 (.inl (by omega)))
            refine fw_dn ?_
            refine fw_bn ?_
            refine fw_th ?_
            refine fw_rg rfl ?_
            refine fw_pu rfl ?_
            refine fw_ex 31 (.int .i64 (((i + 1) : Nat) : Int)) rfl rfl rfl (fun a h => (run_binOp (h.ev rfl) (h.ev rfl) (by simp [go_sem]) (addIw _ _ _ _ (by omega) (by omega) (by omega)))) ?_
            refine fw_pu rfl ?_
            refine fw_dn ?_
            exact fw_th (fw_gf (hK38 _ _ _ (by omega) ⟨(i + 1), c167, aon218, apn218, con218, cpn218, Bzn218, V217, rfl, (by omega), hck167.1, hbd167.1, hwBn218, (.inl (by omega)), hRn218, rfl, b228, r229, r227, f232⟩) ⟨rfl, rfl, (by first | rfl | (simp only [Look, cond, Nat.beq]; first | rfl | (congr 2; first | rfl | omega | (push_cast; omega)) | (simp; try omega))), trivial⟩)
          refine fw_rg rfl ?_
          refine fw_ld r64 rfl rfl ?_
          refine fw_ca Try.func34 rfl rfl rfl (pClose6 cI aoI apI coI cpI W58 hckI.ok (hR _ f66).1 (hR _ f66).2 (Nat.le_trans hbI.2.1 (by decide)) (fun x hx => Nat.le_trans (hbI.2.2 x hx) (by decide)) hE) ?_
          rintro _ Vhb233 ⟨rfl, hb233⟩
          refine ⟨_, rfl, ?_⟩
          have b234 := b62.trans (hb233.mono b62.size)
          have r235 := r63.below hb233
          have r236 := r64.below hb233
          have r237 := r65.below hb233
          have r238 := r60.below hb233
          have f239 := (Tch.grow f66 hb233)
          iterate 4 refine fw_pu rfl ?_
          refine fw_st r238 rfl rfl ?_
          intro W240 s241 r242
          have b243 := below_chg b234 s241 (by omega) b234.size
          have r244 := r235.chg s241 (by omega)
          have r245 := r236.chg s241 (by omega)
          have r246 := r237.chg s241 (by omega)
          have f247 := (Tch.chg f239 s241 (.inr (by omega)))
          iterate 2 refine fw_pu rfl ?_
          refine fw_dn ?_
          refine fw_bn ?_
          refine fw_th ?_
          refine fw_sq ?_
          refine fw_sq ?_
          refine fw_rg rfl ?_
          refine fw_pu rfl ?_
          refine fw_ca Try.func38 rfl rfl rfl ((num16_any 6 W240)) ?_
          rintro _ _ ⟨rfl, rfl⟩
          refine ⟨(.int .i64 6), rfl, ?_⟩
          refine fw_pu rfl ?_
          refine fw_dt ?_
          refine fw_cT rfl rfl ?_
          refine fw_xt ?_
          refine fw_te ?_
          refine fw_be ?_
          refine fw_th ?_
          refine fw_rg rfl ?_
          refine fw_pu rfl ?_
          refine fw_ex 31 (.int .i64 (((i + 1) : Nat) : Int)) rfl rfl rfl (fun a h => (run_binOp (h.ev rfl) (h.ev rfl) (by simp [go_sem]) (addIw _ _ _ _ (by omega) (by omega) (by omega)))) ?_
          refine fw_pu rfl ?_
          refine fw_dn ?_
          exact fw_th (fw_gf (hK38 _ _ _ (by omega) ⟨(i + 1), cI, aoI, apI, coI, cpI, BB, WB, rfl, (by omega), hckI, hbI, hwBB, hqBB, hR, rfl, b243, r244, r245, f247⟩) ⟨rfl, rfl, (by first | rfl | (simp only [Look, cond, Nat.beq]; first | rfl | (congr 2; first | rfl | omega | (push_cast; omega)) | (simp; try omega))), trivial⟩)
        refine fw_cF rfl hb_165 ?_
        refine fw_sq ?_
        refine fw_rg rfl ?_
        iterate 2 refine fw_pu rfl ?_
        refine fw_dt ?_
        rcases Bool.eq_false_or_eq_true (((within x0.d 5) == 2)) with hb_248 | hb_248
        · skip
          refine fw_cT rfl hb_248 ?_
          refine fw_rg rfl ?_
          refine fw_ld r64 rfl rfl ?_
          obtain ⟨⟨c250, l250⟩, hs250⟩ : ∃ x, tickS cI = x := ⟨_, rfl⟩
          have hck250 := tick_ck hckI
          have hbd250 := bd_tick hbI
          rw [hs250] at hck250 hbd250
          have hqB250 := (f66).size
          have := r63.2.2
          have := r64.2.2
          have := r65.2.2
          have := r60.2.2
          obtain ⟨Bz250, hBz250⟩ : ∃ x, x = W58.heap.size := ⟨_, rfl⟩
          have hwB250 : w.heap.size ≤ Bz250 := by rw [hBz250]; exact b62.size
          refine fw_ca Try.func35 rfl rfl rfl (pTick cI aoI apI coI cpI W58 hckI.ok (hR _ f66).1 (hR _ f66).2 (Nat.le_trans hbI.2.1 (by decide)) (fun x hx => Nat.le_trans (hbI.2.2 x hx) (by decide)) hs250) ?_
          rintro _ V250 ⟨ao250, co250, ap250, cp250, al250, cl250, rfl, hM250, hb249⟩
          refine ⟨_, rfl, ?_⟩
          have hT250 := Tch.refl (fun k => k < Bz250) V250
          rw [← hBz250] at hM250
          have hz250 := mine_size hM250
          have b251 := b62.trans (hb249.mono b62.size)
          have r252 := r63.below hb249
          have r253 := r64.below hb249
          have r254 := r65.below hb249
          have r255 := r60.below hb249
          have f256 := (Tch.grow f66 hb249)
          iterate 4 refine fw_pu rfl ?_
          refine fw_st r255 rfl rfl ?_
          intro W257 s258 r259
          have b260 := below_chg b251 s258 (by omega) b251.size
          have r261 := r252.chg s258 (by omega)
          have r262 := r253.chg s258 (by omega)
          have r263 := r254.chg s258 (by omega)
          have f264 := (Tch.chg f256 s258 (.inr (by omega)))
          have f265 := (Tch.chg hT250 s258 (.inl (by omega)))
          iterate 2 refine fw_pu rfl ?_
          refine fw_dn ?_
          refine fw_bn ?_
          refine fw_th ?_
          refine fw_sq ?_
          refine fw_sq ?_
          refine fw_rg rfl ?_
          refine fw_pu rfl ?_
          refine fw_ca Try.func38 rfl rfl rfl ((num16_any 0 W257)) ?_
          rintro _ _ ⟨rfl, rfl⟩
          refine ⟨(.int .i64 0), rfl, ?_⟩
          refine fw_pu rfl ?_
          refine fw_dt ?_
          refine fw_cF rfl rfl ?_
          refine fw_sk ?_
          refine fw_th ?_
          refine fw_sq ?_
          refine fw_sq ?_
          refine fw_rg rfl ?_
          refine fw_ld r259 rfl rfl ?_
          refine fw_ca Try.func31 rfl rfl rfl ((rconn_any c250 ao250 ap250 co250 cp250 W257 (mine_reads hM250 f265).2.1 (Nat.le_trans hbd250.1.2.1 (by decide)) (fun x hx => Nat.le_trans (hbd250.1.2.2 x hx) (by decide)))) ?_
          rintro _ V267 ⟨rfl, hb266⟩
          refine ⟨(.bool (okC c250)), rfl, ?_⟩
          have b268 := b260.trans (hb266.mono b260.size)
          have r269 := r261.below hb266
          have r270 := r262.below hb266
          have r271 := r263.below hb266
          have r272 := r259.below hb266
          have f273 := (Tch.grow f264 hb266)
          have f274 := (Tch.grow f265 hb266)
          iterate 2 refine fw_pu rfl ?_
          refine fw_kn 82 rfl (not_of hck250.1.ok) ?_
          refine fw_pu rfl ?_
          refine fw_ld r272 rfl rfl ?_
          refine fw_pu rfl ?_
          refine fw_ld r270 rfl rfl ?_
          iterate 3 refine fw_pu rfl ?_
          refine fw_kn 89 rfl (not_of (beq_iff_eq.2 hck250.2.1.l)) ?_
          refine fw_pu rfl ?_
          refine fw_ld r272 rfl rfl ?_
          refine fw_pu rfl ?_
          refine fw_ld r270 rfl rfl ?_
          iterate 3 refine fw_pu rfl ?_
          refine fw_kn 96 rfl (not_of (beq_iff_eq.2 hck250.2.1.i)) ?_
          refine fw_pu rfl ?_
          refine fw_ld r272 rfl rfl ?_
          refine fw_pu rfl ?_
          refine fw_ld r270 rfl rfl ?_
          iterate 3 refine fw_pu rfl ?_
          refine fw_kn 103 rfl (not_of (beq_iff_eq.2 hck250.2.1.p)) ?_
          refine fw_pu rfl ?_
          refine fw_ld r272 rfl rfl ?_
          refine fw_pu rfl ?_
          refine fw_ld r270 rfl rfl ?_
          iterate 2 refine fw_pu rfl ?_
          refine fw_dt ?_
          refine fw_fg [(1, _), (3, _), (4, _), (6, _), (7, _), (109, _)] ⟨rfl, rfl, rfl, rfl, rfl, rfl, trivial⟩ ?_
          refine fw_cF rfl (not_of (beq_iff_eq.2 hck250.2.1.o)) ?_
          refine fw_sk ?_
          refine fw_th ?_
          refine fw_sq ?_
          refine fw_sq ?_
          refine fw_rg rfl ?_
          refine fw_pu rfl ?_
          refine fw_dt ?_
          refine fw_bk ?_
          have hlen : l250.length ≤ 100000 := hbd250.2.1
          have hSL := (mine_reads hM250 f274).2.2.1
          obtain ⟨WL, hWL⟩ : ∃ x, x = V267 := ⟨_, rfl⟩
          rw [← hWL] at hSL
          have hbL0 : Below WL.heap.size WL V267 := by rw [hWL]; exact Below.refl _ _
          refine fw_lp (fun N K W => ∃ (j : Nat), N = l250.length - j ∧ j ≤ l250.length ∧ K = [(1, .pointer (some ⟨q1, 0, none⟩)), (3, .pointer (some ⟨q22, 0, none⟩)), (4, .int .i64 ((i : Nat) : Int)), (6, .pointer (some ⟨q57, 0, none⟩)), (7, .slice al250 l250.length cl250), (9, .int .i64 ((j : Nat) : Int))] ∧ Below w.heap.size w W ∧ RowAt W q1 [.int .i64 c.link, .int .i64 c.ip, .int .i64 c.pp, .int .i64 c.po, .int .i64 c.st, .int .i64 c.una, .int .i64 c.nxt, .int .i64 c.win, .slice ao c.out.length co, .int .i64 c.rn, .slice ap c.ps.length cp, .bool c.cl, .bool c.tm.on, .int .i64 c.tm.left, .int .i64 c.tm.wait, .int .i64 c.tm.tries, .slice ac C.length cc] ∧ RowAt W q22 [.int .i64 cI.link, .int .i64 cI.ip, .int .i64 cI.pp, .int .i64 cI.po, .int .i64 cI.st, .int .i64 cI.una, .int .i64 cI.nxt, .int .i64 cI.win, .slice aoI cI.out.length coI, .int .i64 cI.rn, .slice apI cI.ps.length cpI, .bool cI.cl, .bool cI.tm.on, .int .i64 cI.tm.left, .int .i64 cI.tm.wait, .int .i64 cI.tm.tries] ∧ RowAt W q41 [.int .i64 x0.d, .int .i64 x0.n, .int .i64 x0.m, .int .i64 x0.s.sp, .int .i64 x0.s.dp, .int .i64 x0.s.sq, .int .i64 x0.s.ak, .int .i64 x0.s.fl, .int .i64 x0.s.wn, .slice ad x0.s.d.length cd, .bool x0.f, .slice ab x0.b.length cb] ∧ RowAt W q57 [.int .i64 c250.link, .int .i64 c250.ip, .int .i64 c250.pp, .int .i64 c250.po, .int .i64 c250.st, .int .i64 c250.una, .int .i64 c250.nxt, .int .i64 c250.win, .slice ao250 c250.out.length co250, .int .i64 c250.rn, .slice ap250 c250.ps.length cp250, .bool c250.cl, .bool c250.tm.on, .int .i64 c250.tm.left, .int .i64 c250.tm.wait, .int .i64 c250.tm.tries] ∧ Tch (fun k => k < BB) WB W ∧ Tch (fun k => k < Bz250) V250 W ∧ Below WL.heap.size WL W) _ _ ⟨0, rfl, (Nat.zero_le _), rfl, b268, r269, r270, r271, r272, f273, f274, hbL0⟩ ⟨rfl, rfl, rfl, rfl, rfl, (by first | rfl | (simp only [Look, cond, Nat.beq]; first | rfl | (congr 2; first | rfl | omega | (push_cast; omega)) | (simp; try omega))), trivial⟩ ?_
          rintro N _ W275 ⟨j, rfl, hjl, rfl, bW275, rW275_0, rW275_1, rW275_2, rW275_3, fW275_0, fW275_1, fW275_2⟩
          intro K277 hK277
          refine fw_sq ?_
          refine fw_sq ?_
          refine fw_rg rfl ?_
          iterate 4 refine fw_pu rfl ?_
          refine fw_dt ?_
          rcases Bool.eq_false_or_eq_true ((decide (((j : Nat) : Int) < ((l250.length : Nat) : Int)))) with hb_278 | hb_278
          · skip
            refine fw_cT rfl hb_278 ?_
            refine fw_sk ?_
            refine fw_th ?_
            refine fw_sq ?_
            refine fw_bk ?_
            refine fw_sq ?_
            have hjP : j < l250.length := by have h := of_decide_eq_true hb_278; omega
            obtain ⟨x1, hx1⟩ : ∃ p, l250[j]? = some p := ⟨_, List.getElem?_eq_getElem hjP⟩
            obtain ⟨aoS, cpS, heS, -, -, -, hSB⟩ := hSL
            simp only [Value.slice.injEq, true_and] at heS
            obtain ⟨rfl, rfl⟩ := heS
            obtain ⟨bS, oS, haS, hbS, hcS⟩ := hSB (fun e => by rw [e] at hjP; simp at hjP)
            obtain ⟨vS, hsdS, hcaS⟩ := hcS j x1 hx1
            have hsdS2 : Sl WL vS x1.d := hsdS
            obtain ⟨aS, cS, rfl⟩ := Sl.form hsdS2
            have hseg := hck250.2.2 x1 (List.mem_of_getElem? hx1)
            refine fw_hr (fun X => Below w.heap.size w X ∧ RowAt X q1 [.int .i64 c.link, .int .i64 c.ip, .int .i64 c.pp, .int .i64 c.po, .int .i64 c.st, .int .i64 c.una, .int .i64 c.nxt, .int .i64 c.win, .slice ao c.out.length co, .int .i64 c.rn, .slice ap c.ps.length cp, .bool c.cl, .bool c.tm.on, .int .i64 c.tm.left, .int .i64 c.tm.wait, .int .i64 c.tm.tries, .slice ac C.length cc] ∧ RowAt X q22 [.int .i64 cI.link, .int .i64 cI.ip, .int .i64 cI.pp, .int .i64 cI.po, .int .i64 cI.st, .int .i64 cI.una, .int .i64 cI.nxt, .int .i64 cI.win, .slice aoI cI.out.length coI, .int .i64 cI.rn, .slice apI cI.ps.length cpI, .bool cI.cl, .bool cI.tm.on, .int .i64 cI.tm.left, .int .i64 cI.tm.wait, .int .i64 cI.tm.tries] ∧ RowAt X q41 [.int .i64 x0.d, .int .i64 x0.n, .int .i64 x0.m, .int .i64 x0.s.sp, .int .i64 x0.s.dp, .int .i64 x0.s.sq, .int .i64 x0.s.ak, .int .i64 x0.s.fl, .int .i64 x0.s.wn, .slice ad x0.s.d.length cd, .bool x0.f, .slice ab x0.b.length cb] ∧ RowAt X q57 [.int .i64 c250.link, .int .i64 c250.ip, .int .i64 c250.pp, .int .i64 c250.po, .int .i64 c250.st, .int .i64 c250.una, .int .i64 c250.nxt, .int .i64 c250.win, .slice ao250 c250.out.length co250, .int .i64 c250.rn, .slice ap250 c250.ps.length cp250, .bool c250.cl, .bool c250.tm.on, .int .i64 c250.tm.left, .int .i64 c250.tm.wait, .int .i64 c250.tm.tries] ∧ Tch (fun k => k < BB) WB X ∧ Tch (fun k => k < Bz250) V250 X ∧ Below WL.heap.size WL X) (by kernel_rfl) 35 rfl ?_
            intro W279 s280
            have b281 := bW275.trans (s280.mono bW275.size)
            have r282 := rW275_0.below s280
            have r283 := rW275_1.below s280
            have r284 := rW275_2.below s280
            have r285 := rW275_3.below s280
            have f286 := (Tch.grow fW275_0 s280)
            have f287 := (Tch.grow fW275_1 s280)
            have f288 := (Below.trans fW275_2 (Below.mono s280 fW275_2.size))
            refine ⟨⟨b281, r282, r283, r284, r285, f286, f287, f288⟩, ?_⟩
            refine fw_tk 0 rfl rfl (by kernel_rfl) (fun _ _ _ _ _ h => h) ?_
            refine fw_tk 1 rfl rfl (by kernel_rfl) (fun _ _ _ _ _ h => h) ?_
            refine fw_tx 2 118 (.pointer (some ⟨bS, (oS + j * 7), none⟩)) rfl rfl rfl rfl (fun a h W hW => by obtain ⟨b281, r282, r283, r284, r285, f286, f287, f288⟩ := hW; exact (run_indexOp (h.ev rfl) (h.ev rfl) (by rw [haS]; exact idxSegJ _ _ _ _ _ hjP _))) (by kernel_rfl) (fun _ _ _ _ _ h => h) ?_
            refine fw_tx 3 119 (.agg #[.int .i64 x1.sp, .int .i64 x1.dp, .int .i64 x1.sq, .int .i64 x1.ak, .int .i64 x1.fl, .int .i64 x1.wn, .slice aS x1.d.length cS]) rfl rfl rfl rfl (fun a h W hW => by obtain ⟨b281, r282, r283, r284, r285, f286, f287, f288⟩ := hW; exact (run_loadOp (h.ev rfl) (seg_load x1 (.slice aS x1.d.length cS) bS _ _ (fun j u hj => (Below.cell f288 (p := ⟨bS, _, none⟩) hbS).trans (hcaS j u hj))))) (by kernel_rfl) (fun _ _ _ _ _ h => h) ?_
            refine fw_o1 4 (by kernel_rfl) ?_
            refine fw_oc rfl Try.func39 rfl rfl rfl ((rseg12_any x1 aS cS W279)) ?_
            rintro _ V290 ⟨rfl, hb289⟩
            refine ⟨(.bool (rsegB x1)), rfl, ?_⟩
            have b291 := b281.trans (hb289.mono b281.size)
            have r292 := r282.below hb289
            have r293 := r283.below hb289
            have r294 := r284.below hb289
            have r295 := r285.below hb289
            have f296 := (Tch.grow f286 hb289)
            have f297 := (Tch.grow f287 hb289)
            have f298 := (Below.trans f288 (Below.mono hb289 f288.size))
            refine ⟨⟨b291, r292, r293, r294, r295, f296, f297, f298⟩, ?_⟩
            refine fw_tk 5 rfl rfl (by kernel_rfl) (fun _ _ _ _ _ h => h) ?_
            refine fw_tk 6 rfl rfl (by kernel_rfl) (fun _ _ _ _ _ h => h) ?_
            refine fw_kh 122 rfl (not_of ((rsegB_ok x1).trans hseg.1)) ?_
            refine fw_tk 7 rfl rfl (by kernel_rfl) (fun _ _ _ _ _ h => h) ?_
            refine fw_tk 8 rfl rfl (by kernel_rfl) (fun _ _ _ _ _ h => h) ?_
            refine fw_tx 9 125 (.pointer (some ⟨bS, (oS + j * 7), none⟩)) rfl rfl rfl rfl (fun a h W hW => by obtain ⟨b291, r292, r293, r294, r295, f296, f297, f298⟩ := hW; exact (run_indexOp (h.ev rfl) (h.ev rfl) (by rw [haS]; exact idxSegJ _ _ _ _ _ hjP _))) (by kernel_rfl) (fun _ _ _ _ _ h => h) ?_
            refine fw_tk 10 rfl rfl (by kernel_rfl) (fun _ _ _ _ _ h => h) ?_
            refine fw_tx 11 127 (.int .i64 x1.sp) rfl rfl rfl rfl (fun a h W hW => by obtain ⟨b291, r292, r293, r294, r295, f296, f297, f298⟩ := hW; exact (run_loadOp (h.ev rfl) (by simp [go_sem, Instr.loadAt, (Below.cell f298 (p := ⟨bS, oS + j * 7, none⟩) hbS).trans (hcaS 0 _ rfl)]))) (by kernel_rfl) (fun _ _ _ _ _ h => h) ?_
            refine fw_tk 12 rfl rfl (by kernel_rfl) (fun _ _ _ _ _ h => h) ?_
            refine fw_tl 13 (fun _ h => h.2.2.1) rfl rfl rfl (by kernel_rfl) (fun _ _ _ _ _ h => h) ?_
            refine fw_tk 14 rfl rfl (by kernel_rfl) (fun _ _ _ _ _ h => h) ?_
            refine fw_tk 15 rfl rfl (by kernel_rfl) (fun _ _ _ _ _ h => h) ?_
            refine fw_tk 16 rfl rfl (by kernel_rfl) (fun _ _ _ _ _ h => h) ?_
            refine fw_kh 132 rfl (not_of (beq_iff_eq.2 hseg.2.1)) ?_
            refine fw_tk 17 rfl rfl (by kernel_rfl) (fun _ _ _ _ _ h => h) ?_
            refine fw_tk 18 rfl rfl (by kernel_rfl) (fun _ _ _ _ _ h => h) ?_
            refine fw_tx 19 135 (.pointer (some ⟨bS, (oS + j * 7), none⟩)) rfl rfl rfl rfl (fun a h W hW => by obtain ⟨b291, r292, r293, r294, r295, f296, f297, f298⟩ := hW; exact (run_indexOp (h.ev rfl) (h.ev rfl) (by rw [haS]; exact idxSegJ _ _ _ _ _ hjP _))) (by kernel_rfl) (fun _ _ _ _ _ h => h) ?_
            refine fw_tk 20 rfl rfl (by kernel_rfl) (fun _ _ _ _ _ h => h) ?_
            refine fw_tx 21 137 (.int .i64 x1.dp) rfl rfl rfl rfl (fun a h W hW => by obtain ⟨b291, r292, r293, r294, r295, f296, f297, f298⟩ := hW; exact (run_loadOp (h.ev rfl) (by simp [go_sem, Instr.loadAt, (Below.cell f298 (p := ⟨bS, oS + j * 7 + 1, none⟩) hbS).trans (hcaS 1 _ rfl)]))) (by kernel_rfl) (fun _ _ _ _ _ h => h) ?_
            refine fw_tk 22 rfl rfl (by kernel_rfl) (fun _ _ _ _ _ h => h) ?_
            refine fw_tl 23 (fun _ h => h.2.2.1) rfl rfl rfl (by kernel_rfl) (fun _ _ _ _ _ h => h) ?_
            refine fw_tk 24 rfl rfl (by kernel_rfl) (fun _ _ _ _ _ h => h) ?_
            refine fw_tk 25 rfl rfl (by kernel_rfl) (fun _ _ _ _ _ h => h) ?_
            refine fw_tk 26 rfl rfl (by kernel_rfl) (fun _ _ _ _ _ h => h) ?_
            refine fw_kh 142 rfl (not_of (beq_iff_eq.2 hseg.2.2.1)) ?_
            refine fw_tk 27 rfl rfl (by kernel_rfl) (fun _ _ _ _ _ h => h) ?_
            refine fw_tk 28 rfl rfl (by kernel_rfl) (fun _ _ _ _ _ h => h) ?_
            refine fw_tx 29 145 (.pointer (some ⟨bS, (oS + j * 7), none⟩)) rfl rfl rfl rfl (fun a h W hW => by obtain ⟨b291, r292, r293, r294, r295, f296, f297, f298⟩ := hW; exact (run_indexOp (h.ev rfl) (h.ev rfl) (by rw [haS]; exact idxSegJ _ _ _ _ _ hjP _))) (by kernel_rfl) (fun _ _ _ _ _ h => h) ?_
            refine fw_tk 30 rfl rfl (by kernel_rfl) (fun _ _ _ _ _ h => h) ?_
            refine fw_tx 31 147 (.slice aS x1.d.length cS) rfl rfl rfl rfl (fun a h W hW => by obtain ⟨b291, r292, r293, r294, r295, f296, f297, f298⟩ := hW; exact (run_loadOp (h.ev rfl) (by simp [go_sem, Instr.loadAt, (Below.cell f298 (p := ⟨bS, oS + j * 7 + 6, none⟩) hbS).trans (hcaS 6 _ rfl)]))) (by kernel_rfl) (fun _ _ _ _ _ h => h) ?_
            refine fw_tk 32 rfl rfl (by kernel_rfl) (fun _ _ _ _ _ h => h) ?_
            refine fw_tk 33 rfl rfl (by kernel_rfl) (fun _ _ _ _ _ h => h) ?_
            refine fw_tk 34 rfl rfl (by kernel_rfl) (fun _ _ _ _ _ h => h) ?_
            refine fw_ht (by kernel_rfl) ?_
            refine fw_cF rfl (decide_eq_false (by have := hseg.2.2.2; omega)) ?_
            refine fw_sk ?_
            refine fw_bn ?_
            refine fw_th ?_
            refine fw_rg rfl ?_
            refine fw_pu rfl ?_
            refine fw_ex 115 (.int .i64 (((j + 1) : Nat) : Int)) rfl rfl rfl (fun a h => (run_binOp (h.ev rfl) (h.ev rfl) (by simp [go_sem]) (addIw _ _ _ _ (by omega) (by omega) (by omega)))) ?_
            refine fw_pu rfl ?_
            refine fw_dn ?_
            exact fw_th (fw_gf (hK277 _ _ _ (by omega) ⟨(j + 1), rfl, hjP, rfl, b291, r292, r293, r294, r295, f296, f297, f298⟩) ⟨rfl, rfl, rfl, rfl, rfl, (by first | rfl | (simp only [Look, cond, Nat.beq]; first | rfl | (congr 2; first | rfl | omega | (push_cast; omega)) | (simp; try omega))), trivial⟩)
          refine fw_cF rfl hb_278 ?_
          refine fw_xt ?_
          refine fw_te ?_
          refine fw_te ?_
          refine fw_be ?_
          refine fw_th ?_
          refine fw_rg rfl ?_
          refine fw_ld rW275_3 rfl rfl ?_
          have := rW275_0.2.2
          have := rW275_1.2.2
          have := rW275_2.2.2
          have := rW275_3.2.2
          obtain ⟨Bzn301, hBzn301⟩ : ∃ x, x = W275.heap.size := ⟨_, rfl⟩
          have hwBn301 : w.heap.size ≤ Bzn301 := by rw [hBzn301]; exact bW275.size
          refine fw_ca Try.func32 rfl rfl rfl (copyConn_t c250 ao250 ap250 co250 cp250 W275 hbd250.1 (mine_reads hM250 fW275_1).1 (mine_reads hM250 fW275_1).2.1) ?_
          rintro _ V300 ⟨aon301, con301, apn301, cpn301, rfl, hb299, hRn301⟩
          refine ⟨_, rfl, ?_⟩
          have hTn301 := Tch.refl (fun k => k < Bzn301) V300
          rw [← hBzn301] at hRn301
          have b302 := bW275.trans (hb299.mono bW275.size)
          have r303 := rW275_0.below hb299
          have r304 := rW275_1.below hb299
          have r305 := rW275_2.below hb299
          have r306 := rW275_3.below hb299
          have f307 := (Below.trans fW275_2 (Below.mono hb299 fW275_2.size))
          refine fw_st r304 rfl rfl ?_
          intro W308 s309 r310
          have b311 := below_chg b302 s309 (by omega) b302.size
          have r312 := r303.chg s309 (by omega)
          have r313 := r305.chg s309 (by omega)
          have r314 := r306.chg s309 (by omega)
          have f315 := (Tch.chg hTn301 s309 (.inl (by omega)))
          refine fw_dn ?_
          refine fw_bn ?_
          refine fw_th ?_
          refine fw_rg rfl ?_
          refine fw_pu rfl ?_
          refine fw_ex 31 (.int .i64 (((i + 1) : Nat) : Int)) rfl rfl rfl (fun a h => (run_binOp (h.ev rfl) (h.ev rfl) (by simp [go_sem]) (addIw _ _ _ _ (by omega) (by omega) (by omega)))) ?_
          refine fw_pu rfl ?_
          refine fw_dn ?_
          exact fw_th (fw_gf (hK38 _ _ _ (by omega) ⟨(i + 1), c250, aon301, apn301, con301, cpn301, Bzn301, V300, rfl, (by omega), hck250.1, hbd250.1, hwBn301, (.inl (by omega)), hRn301, rfl, b311, r312, r310, f315⟩) ⟨rfl, rfl, (by first | rfl | (simp only [Look, cond, Nat.beq]; first | rfl | (congr 2; first | rfl | omega | (push_cast; omega)) | (simp; try omega))), trivial⟩)
        refine fw_cF rfl hb_248 ?_
        refine fw_hr (fun X => Below w.heap.size w X ∧ RowAt X q1 [.int .i64 c.link, .int .i64 c.ip, .int .i64 c.pp, .int .i64 c.po, .int .i64 c.st, .int .i64 c.una, .int .i64 c.nxt, .int .i64 c.win, .slice ao c.out.length co, .int .i64 c.rn, .slice ap c.ps.length cp, .bool c.cl, .bool c.tm.on, .int .i64 c.tm.left, .int .i64 c.tm.wait, .int .i64 c.tm.tries, .slice ac C.length cc] ∧ RowAt X q22 [.int .i64 cI.link, .int .i64 cI.ip, .int .i64 cI.pp, .int .i64 cI.po, .int .i64 cI.st, .int .i64 cI.una, .int .i64 cI.nxt, .int .i64 cI.win, .slice aoI cI.out.length coI, .int .i64 cI.rn, .slice apI cI.ps.length cpI, .bool cI.cl, .bool cI.tm.on, .int .i64 cI.tm.left, .int .i64 cI.tm.wait, .int .i64 cI.tm.tries] ∧ RowAt X q41 [.int .i64 x0.d, .int .i64 x0.n, .int .i64 x0.m, .int .i64 x0.s.sp, .int .i64 x0.s.dp, .int .i64 x0.s.sq, .int .i64 x0.s.ak, .int .i64 x0.s.fl, .int .i64 x0.s.wn, .slice ad x0.s.d.length cd, .bool x0.f, .slice ab x0.b.length cb] ∧ Tch (fun k => k < BB) WB X) (by kernel_rfl) 13 rfl ?_
        intro W316 s317
        have b318 := b62.trans (s317.mono b62.size)
        have r319 := r63.below s317
        have r320 := r64.below s317
        have r321 := r65.below s317
        have r322 := r60.below s317
        have f323 := (Tch.grow f66 s317)
        refine ⟨⟨b318, r319, r320, r321, f323⟩, ?_⟩
        refine fw_tl 0 (fun _ h => h.2.2.1) rfl rfl rfl (by kernel_rfl) (fun _ _ _ _ _ h => h) ?_
        refine fw_tl 1 (fun _ h => h.2.2.1) rfl rfl rfl (by kernel_rfl) (fun _ _ _ _ _ h => h) ?_
        refine fw_tl 2 (fun _ h => h.2.2.2.1) rfl rfl rfl (by kernel_rfl) (fun _ _ _ _ _ h => h) ?_
        refine fw_o1 3 (by kernel_rfl) ?_
        refine fw_oc rfl Try.func37 rfl rfl rfl (fit_any cI aoI apI coI cpI x0 ad ab cd cb W316 (hR _ f323).2 (Nat.le_trans hbI.2.1 (by decide)) (fun x hx => Nat.le_trans (hbI.2.2 x hx) (by decide)) (Nat.le_trans hdl.1 (by decide)) (hsd.below b318)) ?_
        rintro _ V325 ⟨s1, a7, c7, rfl, hsd1, hb324, hF⟩
        refine ⟨_, rfl, ?_⟩
        obtain ⟨Bf, hBf⟩ : ∃ x, x = W316.heap.size := ⟨_, rfl⟩
        rw [← hBf] at hF
        obtain ⟨bmt, hbmt⟩ : ∃ x, x = mayTake cI s1 := ⟨_, rfl⟩
        have b326 := b318.trans (hb324.mono b318.size)
        have r327 := r319.below hb324
        have r328 := r320.below hb324
        have r329 := r321.below hb324
        have r330 := r322.below hb324
        have f331 := (Tch.grow f323 hb324)
        refine ⟨⟨b326, r327, r328, r329, f331⟩, ?_⟩
        rcases Bool.eq_false_or_eq_true (bmt) with hb_332 | hb_332
        · skip
          refine fw_o1 4 (by kernel_rfl) ?_
          have hmt : mayTake cI s1 = true := by rw [← hbmt]; exact hb_332
          obtain ⟨⟨c334, l334, t334⟩, hs334⟩ : ∃ x, takeS cI s1 = x := ⟨_, rfl⟩
          have hck334 := take_ck hckI (mt_ok hmt)
          have hbd334 := bd_take (s := s1) hbI
          rw [hs334] at hck334 hbd334
          have hqB334 := (f331).size
          have := r327.2.2
          have := r328.2.2
          have := r329.2.2
          have := r330.2.2
          obtain ⟨Bz334, hBz334⟩ : ∃ x, x = V325.heap.size := ⟨_, rfl⟩
          have hwB334 : w.heap.size ≤ Bz334 := by rw [hBz334]; exact b326.size
          refine fw_oc rfl Try.func36 rfl rfl rfl (pTake cI aoI apI coI cpI V325 (hR _ f331).1 (hR _ f331).2 (Nat.le_trans hbI.2.1 (by decide)) (fun x hx => Nat.le_trans (hbI.2.2 x hx) (by decide)) s1 a7 c7 hmt (Sl.of_own hF).1 hs334) ?_
          rintro _ V334 ⟨ao334, co334, ap334, cp334, al334, cl334, vt334, rfl, hM334, hb333⟩
          refine ⟨_, rfl, ?_⟩
          have hT334 := Tch.refl (fun k => k < Bz334) V334
          rw [← hBz334] at hM334
          have hz334 := mine_size hM334
          have b335 := b326.trans (hb333.mono b326.size)
          have r336 := r327.below hb333
          have r337 := r328.below hb333
          have r338 := r329.below hb333
          have r339 := r330.below hb333
          have f340 := (Tch.grow f331 hb333)
          have f341 := (below_own hF hb333)
          refine ⟨⟨b335, r336, r337, r338, f340⟩, ?_⟩
          refine fw_tk 5 rfl rfl (by kernel_rfl) (fun _ _ _ _ _ h => h) ?_
          refine fw_tk 6 rfl rfl (by kernel_rfl) (fun _ _ _ _ _ h => h) ?_
          refine fw_tk 7 rfl rfl (by kernel_rfl) (fun _ _ _ _ _ h => h) ?_
          refine fw_tk 8 rfl rfl (by kernel_rfl) (fun _ _ _ _ _ h => h) ?_
          refine fw_tk 9 rfl rfl (by kernel_rfl) (fun _ _ _ _ _ h => h) ?_
          refine fw_o1 10 (by kernel_rfl) ?_
          refine fw_os rfl r339 rfl rfl ?_
          intro W342 s343 r344
          have b345 := below_chg b335 s343 (by omega) b335.size
          have r346 := r336.chg s343 (by omega)
          have r347 := r337.chg s343 (by omega)
          have r348 := r338.chg s343 (by omega)
          have f349 := (Tch.chg f340 s343 (.inr (by omega)))
          have f350 := (Tch.chg hT334 s343 (.inl (by omega)))
          refine ⟨⟨b345, r346, r347, r348, f349⟩, ?_⟩
          refine fw_tk 11 rfl rfl (by kernel_rfl) (fun _ _ _ _ _ h => h) ?_
          refine fw_tk 12 rfl rfl (by kernel_rfl) (fun _ _ _ _ _ h => h) ?_
          refine fw_hz (by kernel_rfl) ?_
          refine fw_bn ?_
          refine fw_th ?_
          refine fw_sq ?_
          refine fw_sq ?_
          refine fw_rg rfl ?_
          refine fw_pu rfl ?_
          refine fw_ca Try.func38 rfl rfl rfl ((num16_any 0 W342)) ?_
          rintro _ _ ⟨rfl, rfl⟩
          refine ⟨(.int .i64 0), rfl, ?_⟩
          refine fw_pu rfl ?_
          refine fw_dt ?_
          refine fw_cF rfl rfl ?_
          refine fw_sk ?_
          refine fw_th ?_
          refine fw_sq ?_
          refine fw_sq ?_
          refine fw_rg rfl ?_
          refine fw_ld r344 rfl rfl ?_
          refine fw_ca Try.func31 rfl rfl rfl ((rconn_any c334 ao334 ap334 co334 cp334 W342 (mine_reads hM334 f350).2.1 (Nat.le_trans hbd334.1.2.1 (by decide)) (fun x hx => Nat.le_trans (hbd334.1.2.2 x hx) (by decide)))) ?_
          rintro _ V352 ⟨rfl, hb351⟩
          refine ⟨(.bool (okC c334)), rfl, ?_⟩
          have b353 := b345.trans (hb351.mono b345.size)
          have r354 := r346.below hb351
          have r355 := r347.below hb351
          have r356 := r348.below hb351
          have r357 := r344.below hb351
          have f358 := (Tch.grow f349 hb351)
          have f359 := (Tch.grow f350 hb351)
          iterate 2 refine fw_pu rfl ?_
          refine fw_kn 82 rfl (not_of hck334.1.ok) ?_
          refine fw_pu rfl ?_
          refine fw_ld r357 rfl rfl ?_
          refine fw_pu rfl ?_
          refine fw_ld r355 rfl rfl ?_
          iterate 3 refine fw_pu rfl ?_
          refine fw_kn 89 rfl (not_of (beq_iff_eq.2 hck334.2.1.l)) ?_
          refine fw_pu rfl ?_
          refine fw_ld r357 rfl rfl ?_
          refine fw_pu rfl ?_
          refine fw_ld r355 rfl rfl ?_
          iterate 3 refine fw_pu rfl ?_
          refine fw_kn 96 rfl (not_of (beq_iff_eq.2 hck334.2.1.i)) ?_
          refine fw_pu rfl ?_
          refine fw_ld r357 rfl rfl ?_
          refine fw_pu rfl ?_
          refine fw_ld r355 rfl rfl ?_
          iterate 3 refine fw_pu rfl ?_
          refine fw_kn 103 rfl (not_of (beq_iff_eq.2 hck334.2.1.p)) ?_
          refine fw_pu rfl ?_
          refine fw_ld r357 rfl rfl ?_
          refine fw_pu rfl ?_
          refine fw_ld r355 rfl rfl ?_
          iterate 2 refine fw_pu rfl ?_
          refine fw_dt ?_
          refine fw_fg [(1, _), (3, _), (4, _), (6, _), (7, _), (109, _)] ⟨rfl, rfl, rfl, rfl, rfl, rfl, trivial⟩ ?_
          refine fw_cF rfl (not_of (beq_iff_eq.2 hck334.2.1.o)) ?_
          refine fw_sk ?_
          refine fw_th ?_
          refine fw_sq ?_
          refine fw_sq ?_
          refine fw_rg rfl ?_
          refine fw_pu rfl ?_
          refine fw_dt ?_
          refine fw_bk ?_
          have hlen : l334.length ≤ 100000 := hbd334.2.1.1
          have hSL := (mine_reads hM334 f359).2.2.1
          obtain ⟨WL, hWL⟩ : ∃ x, x = V352 := ⟨_, rfl⟩
          rw [← hWL] at hSL
          have hbL0 : Below WL.heap.size WL V352 := by rw [hWL]; exact Below.refl _ _
          refine fw_lp (fun N K W => ∃ (j : Nat), N = l334.length - j ∧ j ≤ l334.length ∧ K = [(1, .pointer (some ⟨q1, 0, none⟩)), (3, .pointer (some ⟨q22, 0, none⟩)), (4, .int .i64 ((i : Nat) : Int)), (6, .pointer (some ⟨q57, 0, none⟩)), (7, .slice al334 l334.length cl334), (9, .int .i64 ((j : Nat) : Int))] ∧ Below w.heap.size w W ∧ RowAt W q1 [.int .i64 c.link, .int .i64 c.ip, .int .i64 c.pp, .int .i64 c.po, .int .i64 c.st, .int .i64 c.una, .int .i64 c.nxt, .int .i64 c.win, .slice ao c.out.length co, .int .i64 c.rn, .slice ap c.ps.length cp, .bool c.cl, .bool c.tm.on, .int .i64 c.tm.left, .int .i64 c.tm.wait, .int .i64 c.tm.tries, .slice ac C.length cc] ∧ RowAt W q22 [.int .i64 cI.link, .int .i64 cI.ip, .int .i64 cI.pp, .int .i64 cI.po, .int .i64 cI.st, .int .i64 cI.una, .int .i64 cI.nxt, .int .i64 cI.win, .slice aoI cI.out.length coI, .int .i64 cI.rn, .slice apI cI.ps.length cpI, .bool cI.cl, .bool cI.tm.on, .int .i64 cI.tm.left, .int .i64 cI.tm.wait, .int .i64 cI.tm.tries] ∧ RowAt W q41 [.int .i64 x0.d, .int .i64 x0.n, .int .i64 x0.m, .int .i64 x0.s.sp, .int .i64 x0.s.dp, .int .i64 x0.s.sq, .int .i64 x0.s.ak, .int .i64 x0.s.fl, .int .i64 x0.s.wn, .slice ad x0.s.d.length cd, .bool x0.f, .slice ab x0.b.length cb] ∧ RowAt W q57 [.int .i64 c334.link, .int .i64 c334.ip, .int .i64 c334.pp, .int .i64 c334.po, .int .i64 c334.st, .int .i64 c334.una, .int .i64 c334.nxt, .int .i64 c334.win, .slice ao334 c334.out.length co334, .int .i64 c334.rn, .slice ap334 c334.ps.length cp334, .bool c334.cl, .bool c334.tm.on, .int .i64 c334.tm.left, .int .i64 c334.tm.wait, .int .i64 c334.tm.tries] ∧ Tch (fun k => k < BB) WB W ∧ Tch (fun k => k < Bz334) V334 W ∧ Below WL.heap.size WL W) _ _ ⟨0, rfl, (Nat.zero_le _), rfl, b353, r354, r355, r356, r357, f358, f359, hbL0⟩ ⟨rfl, rfl, rfl, rfl, rfl, (by first | rfl | (simp only [Look, cond, Nat.beq]; first | rfl | (congr 2; first | rfl | omega | (push_cast; omega)) | (simp; try omega))), trivial⟩ ?_
          rintro N _ W360 ⟨j, rfl, hjl, rfl, bW360, rW360_0, rW360_1, rW360_2, rW360_3, fW360_0, fW360_1, fW360_2⟩
          intro K362 hK362
          refine fw_sq ?_
          refine fw_sq ?_
          refine fw_rg rfl ?_
          iterate 4 refine fw_pu rfl ?_
          refine fw_dt ?_
          rcases Bool.eq_false_or_eq_true ((decide (((j : Nat) : Int) < ((l334.length : Nat) : Int)))) with hb_363 | hb_363
          · skip
            refine fw_cT rfl hb_363 ?_
            refine fw_sk ?_
            refine fw_th ?_
            refine fw_sq ?_
            refine fw_bk ?_
            refine fw_sq ?_
            have hjP : j < l334.length := by have h := of_decide_eq_true hb_363; omega
            obtain ⟨x1, hx1⟩ : ∃ p, l334[j]? = some p := ⟨_, List.getElem?_eq_getElem hjP⟩
            obtain ⟨aoS, cpS, heS, -, -, -, hSB⟩ := hSL
            simp only [Value.slice.injEq, true_and] at heS
            obtain ⟨rfl, rfl⟩ := heS
            obtain ⟨bS, oS, haS, hbS, hcS⟩ := hSB (fun e => by rw [e] at hjP; simp at hjP)
            obtain ⟨vS, hsdS, hcaS⟩ := hcS j x1 hx1
            have hsdS2 : Sl WL vS x1.d := hsdS
            obtain ⟨aS, cS, rfl⟩ := Sl.form hsdS2
            have hseg := hck334.2.2 x1 (List.mem_of_getElem? hx1)
            refine fw_hr (fun X => Below w.heap.size w X ∧ RowAt X q1 [.int .i64 c.link, .int .i64 c.ip, .int .i64 c.pp, .int .i64 c.po, .int .i64 c.st, .int .i64 c.una, .int .i64 c.nxt, .int .i64 c.win, .slice ao c.out.length co, .int .i64 c.rn, .slice ap c.ps.length cp, .bool c.cl, .bool c.tm.on, .int .i64 c.tm.left, .int .i64 c.tm.wait, .int .i64 c.tm.tries, .slice ac C.length cc] ∧ RowAt X q22 [.int .i64 cI.link, .int .i64 cI.ip, .int .i64 cI.pp, .int .i64 cI.po, .int .i64 cI.st, .int .i64 cI.una, .int .i64 cI.nxt, .int .i64 cI.win, .slice aoI cI.out.length coI, .int .i64 cI.rn, .slice apI cI.ps.length cpI, .bool cI.cl, .bool cI.tm.on, .int .i64 cI.tm.left, .int .i64 cI.tm.wait, .int .i64 cI.tm.tries] ∧ RowAt X q41 [.int .i64 x0.d, .int .i64 x0.n, .int .i64 x0.m, .int .i64 x0.s.sp, .int .i64 x0.s.dp, .int .i64 x0.s.sq, .int .i64 x0.s.ak, .int .i64 x0.s.fl, .int .i64 x0.s.wn, .slice ad x0.s.d.length cd, .bool x0.f, .slice ab x0.b.length cb] ∧ RowAt X q57 [.int .i64 c334.link, .int .i64 c334.ip, .int .i64 c334.pp, .int .i64 c334.po, .int .i64 c334.st, .int .i64 c334.una, .int .i64 c334.nxt, .int .i64 c334.win, .slice ao334 c334.out.length co334, .int .i64 c334.rn, .slice ap334 c334.ps.length cp334, .bool c334.cl, .bool c334.tm.on, .int .i64 c334.tm.left, .int .i64 c334.tm.wait, .int .i64 c334.tm.tries] ∧ Tch (fun k => k < BB) WB X ∧ Tch (fun k => k < Bz334) V334 X ∧ Below WL.heap.size WL X) (by kernel_rfl) 35 rfl ?_
            intro W364 s365
            have b366 := bW360.trans (s365.mono bW360.size)
            have r367 := rW360_0.below s365
            have r368 := rW360_1.below s365
            have r369 := rW360_2.below s365
            have r370 := rW360_3.below s365
            have f371 := (Tch.grow fW360_0 s365)
            have f372 := (Tch.grow fW360_1 s365)
            have f373 := (Below.trans fW360_2 (Below.mono s365 fW360_2.size))
            refine ⟨⟨b366, r367, r368, r369, r370, f371, f372, f373⟩, ?_⟩
            refine fw_tk 0 rfl rfl (by kernel_rfl) (fun _ _ _ _ _ h => h) ?_
            refine fw_tk 1 rfl rfl (by kernel_rfl) (fun _ _ _ _ _ h => h) ?_
            refine fw_tx 2 118 (.pointer (some ⟨bS, (oS + j * 7), none⟩)) rfl rfl rfl rfl (fun a h W hW => by obtain ⟨b366, r367, r368, r369, r370, f371, f372, f373⟩ := hW; exact (run_indexOp (h.ev rfl) (h.ev rfl) (by rw [haS]; exact idxSegJ _ _ _ _ _ hjP _))) (by kernel_rfl) (fun _ _ _ _ _ h => h) ?_
            refine fw_tx 3 119 (.agg #[.int .i64 x1.sp, .int .i64 x1.dp, .int .i64 x1.sq, .int .i64 x1.ak, .int .i64 x1.fl, .int .i64 x1.wn, .slice aS x1.d.length cS]) rfl rfl rfl rfl (fun a h W hW => by obtain ⟨b366, r367, r368, r369, r370, f371, f372, f373⟩ := hW; exact (run_loadOp (h.ev rfl) (seg_load x1 (.slice aS x1.d.length cS) bS _ _ (fun j u hj => (Below.cell f373 (p := ⟨bS, _, none⟩) hbS).trans (hcaS j u hj))))) (by kernel_rfl) (fun _ _ _ _ _ h => h) ?_
            refine fw_o1 4 (by kernel_rfl) ?_
            refine fw_oc rfl Try.func39 rfl rfl rfl ((rseg12_any x1 aS cS W364)) ?_
            rintro _ V375 ⟨rfl, hb374⟩
            refine ⟨(.bool (rsegB x1)), rfl, ?_⟩
            have b376 := b366.trans (hb374.mono b366.size)
            have r377 := r367.below hb374
            have r378 := r368.below hb374
            have r379 := r369.below hb374
            have r380 := r370.below hb374
            have f381 := (Tch.grow f371 hb374)
            have f382 := (Tch.grow f372 hb374)
            have f383 := (Below.trans f373 (Below.mono hb374 f373.size))
            refine ⟨⟨b376, r377, r378, r379, r380, f381, f382, f383⟩, ?_⟩
            refine fw_tk 5 rfl rfl (by kernel_rfl) (fun _ _ _ _ _ h => h) ?_
            refine fw_tk 6 rfl rfl (by kernel_rfl) (fun _ _ _ _ _ h => h) ?_
            refine fw_kh 122 rfl (not_of ((rsegB_ok x1).trans hseg.1)) ?_
            refine fw_tk 7 rfl rfl (by kernel_rfl) (fun _ _ _ _ _ h => h) ?_
            refine fw_tk 8 rfl rfl (by kernel_rfl) (fun _ _ _ _ _ h => h) ?_
            refine fw_tx 9 125 (.pointer (some ⟨bS, (oS + j * 7), none⟩)) rfl rfl rfl rfl (fun a h W hW => by obtain ⟨b376, r377, r378, r379, r380, f381, f382, f383⟩ := hW; exact (run_indexOp (h.ev rfl) (h.ev rfl) (by rw [haS]; exact idxSegJ _ _ _ _ _ hjP _))) (by kernel_rfl) (fun _ _ _ _ _ h => h) ?_
            refine fw_tk 10 rfl rfl (by kernel_rfl) (fun _ _ _ _ _ h => h) ?_
            refine fw_tx 11 127 (.int .i64 x1.sp) rfl rfl rfl rfl (fun a h W hW => by obtain ⟨b376, r377, r378, r379, r380, f381, f382, f383⟩ := hW; exact (run_loadOp (h.ev rfl) (by simp [go_sem, Instr.loadAt, (Below.cell f383 (p := ⟨bS, oS + j * 7, none⟩) hbS).trans (hcaS 0 _ rfl)]))) (by kernel_rfl) (fun _ _ _ _ _ h => h) ?_
            refine fw_tk 12 rfl rfl (by kernel_rfl) (fun _ _ _ _ _ h => h) ?_
            refine fw_tl 13 (fun _ h => h.2.2.1) rfl rfl rfl (by kernel_rfl) (fun _ _ _ _ _ h => h) ?_
            refine fw_tk 14 rfl rfl (by kernel_rfl) (fun _ _ _ _ _ h => h) ?_
            refine fw_tk 15 rfl rfl (by kernel_rfl) (fun _ _ _ _ _ h => h) ?_
            refine fw_tk 16 rfl rfl (by kernel_rfl) (fun _ _ _ _ _ h => h) ?_
            refine fw_kh 132 rfl (not_of (beq_iff_eq.2 hseg.2.1)) ?_
            refine fw_tk 17 rfl rfl (by kernel_rfl) (fun _ _ _ _ _ h => h) ?_
            refine fw_tk 18 rfl rfl (by kernel_rfl) (fun _ _ _ _ _ h => h) ?_
            refine fw_tx 19 135 (.pointer (some ⟨bS, (oS + j * 7), none⟩)) rfl rfl rfl rfl (fun a h W hW => by obtain ⟨b376, r377, r378, r379, r380, f381, f382, f383⟩ := hW; exact (run_indexOp (h.ev rfl) (h.ev rfl) (by rw [haS]; exact idxSegJ _ _ _ _ _ hjP _))) (by kernel_rfl) (fun _ _ _ _ _ h => h) ?_
            refine fw_tk 20 rfl rfl (by kernel_rfl) (fun _ _ _ _ _ h => h) ?_
            refine fw_tx 21 137 (.int .i64 x1.dp) rfl rfl rfl rfl (fun a h W hW => by obtain ⟨b376, r377, r378, r379, r380, f381, f382, f383⟩ := hW; exact (run_loadOp (h.ev rfl) (by simp [go_sem, Instr.loadAt, (Below.cell f383 (p := ⟨bS, oS + j * 7 + 1, none⟩) hbS).trans (hcaS 1 _ rfl)]))) (by kernel_rfl) (fun _ _ _ _ _ h => h) ?_
            refine fw_tk 22 rfl rfl (by kernel_rfl) (fun _ _ _ _ _ h => h) ?_
            refine fw_tl 23 (fun _ h => h.2.2.1) rfl rfl rfl (by kernel_rfl) (fun _ _ _ _ _ h => h) ?_
            refine fw_tk 24 rfl rfl (by kernel_rfl) (fun _ _ _ _ _ h => h) ?_
            refine fw_tk 25 rfl rfl (by kernel_rfl) (fun _ _ _ _ _ h => h) ?_
            refine fw_tk 26 rfl rfl (by kernel_rfl) (fun _ _ _ _ _ h => h) ?_
            refine fw_kh 142 rfl (not_of (beq_iff_eq.2 hseg.2.2.1)) ?_
            refine fw_tk 27 rfl rfl (by kernel_rfl) (fun _ _ _ _ _ h => h) ?_
            refine fw_tk 28 rfl rfl (by kernel_rfl) (fun _ _ _ _ _ h => h) ?_
            refine fw_tx 29 145 (.pointer (some ⟨bS, (oS + j * 7), none⟩)) rfl rfl rfl rfl (fun a h W hW => by obtain ⟨b376, r377, r378, r379, r380, f381, f382, f383⟩ := hW; exact (run_indexOp (h.ev rfl) (h.ev rfl) (by rw [haS]; exact idxSegJ _ _ _ _ _ hjP _))) (by kernel_rfl) (fun _ _ _ _ _ h => h) ?_
            refine fw_tk 30 rfl rfl (by kernel_rfl) (fun _ _ _ _ _ h => h) ?_
            refine fw_tx 31 147 (.slice aS x1.d.length cS) rfl rfl rfl rfl (fun a h W hW => by obtain ⟨b376, r377, r378, r379, r380, f381, f382, f383⟩ := hW; exact (run_loadOp (h.ev rfl) (by simp [go_sem, Instr.loadAt, (Below.cell f383 (p := ⟨bS, oS + j * 7 + 6, none⟩) hbS).trans (hcaS 6 _ rfl)]))) (by kernel_rfl) (fun _ _ _ _ _ h => h) ?_
            refine fw_tk 32 rfl rfl (by kernel_rfl) (fun _ _ _ _ _ h => h) ?_
            refine fw_tk 33 rfl rfl (by kernel_rfl) (fun _ _ _ _ _ h => h) ?_
            refine fw_tk 34 rfl rfl (by kernel_rfl) (fun _ _ _ _ _ h => h) ?_
            refine fw_ht (by kernel_rfl) ?_
            refine fw_cF rfl (decide_eq_false (by have := hseg.2.2.2; omega)) ?_
            refine fw_sk ?_
            refine fw_bn ?_
            refine fw_th ?_
            refine fw_rg rfl ?_
            refine fw_pu rfl ?_
            refine fw_ex 115 (.int .i64 (((j + 1) : Nat) : Int)) rfl rfl rfl (fun a h => (run_binOp (h.ev rfl) (h.ev rfl) (by simp [go_sem]) (addIw _ _ _ _ (by omega) (by omega) (by omega)))) ?_
            refine fw_pu rfl ?_
            refine fw_dn ?_
            exact fw_th (fw_gf (hK362 _ _ _ (by omega) ⟨(j + 1), rfl, hjP, rfl, b376, r377, r378, r379, r380, f381, f382, f383⟩) ⟨rfl, rfl, rfl, rfl, rfl, (by first | rfl | (simp only [Look, cond, Nat.beq]; first | rfl | (congr 2; first | rfl | omega | (push_cast; omega)) | (simp; try omega))), trivial⟩)
          refine fw_cF rfl hb_363 ?_
          refine fw_xt ?_
          refine fw_te ?_
          refine fw_te ?_
          refine fw_be ?_
          refine fw_th ?_
          refine fw_rg rfl ?_
          refine fw_ld rW360_3 rfl rfl ?_
          have := rW360_0.2.2
          have := rW360_1.2.2
          have := rW360_2.2.2
          have := rW360_3.2.2
          obtain ⟨Bzn386, hBzn386⟩ : ∃ x, x = W360.heap.size := ⟨_, rfl⟩
          have hwBn386 : w.heap.size ≤ Bzn386 := by rw [hBzn386]; exact bW360.size
          refine fw_ca Try.func32 rfl rfl rfl (copyConn_t c334 ao334 ap334 co334 cp334 W360 hbd334.1 (mine_reads hM334 fW360_1).1 (mine_reads hM334 fW360_1).2.1) ?_
          rintro _ V385 ⟨aon386, con386, apn386, cpn386, rfl, hb384, hRn386⟩
          refine ⟨_, rfl, ?_⟩
          have hTn386 := Tch.refl (fun k => k < Bzn386) V385
          rw [← hBzn386] at hRn386
          have b387 := bW360.trans (hb384.mono bW360.size)
          have r388 := rW360_0.below hb384
          have r389 := rW360_1.below hb384
          have r390 := rW360_2.below hb384
          have r391 := rW360_3.below hb384
          have f392 := (Below.trans fW360_2 (Below.mono hb384 fW360_2.size))
          refine fw_st r389 rfl rfl ?_
          intro W393 s394 r395
          have b396 := below_chg b387 s394 (by omega) b387.size
          have r397 := r388.chg s394 (by omega)
          have r398 := r390.chg s394 (by omega)
          have r399 := r391.chg s394 (by omega)
          have f400 := (Tch.chg hTn386 s394 (.inl (by omega)))
          refine fw_dn ?_
          refine fw_bn ?_
          refine fw_th ?_
          refine fw_rg rfl ?_
          refine fw_pu rfl ?_
          refine fw_ex 31 (.int .i64 (((i + 1) : Nat) : Int)) rfl rfl rfl (fun a h => (run_binOp (h.ev rfl) (h.ev rfl) (by simp [go_sem]) (addIw _ _ _ _ (by omega) (by omega) (by omega)))) ?_
          refine fw_pu rfl ?_
          refine fw_dn ?_
          exact fw_th (fw_gf (hK38 _ _ _ (by omega) ⟨(i + 1), c334, aon386, apn386, con386, cpn386, Bzn386, V385, rfl, (by omega), hck334.1, hbd334.1, hwBn386, (.inl (by omega)), hRn386, rfl, b396, r397, r395, f400⟩) ⟨rfl, rfl, (by first | rfl | (simp only [Look, cond, Nat.beq]; first | rfl | (congr 2; first | rfl | omega | (push_cast; omega)) | (simp; try omega))), trivial⟩)
        refine fw_o1 4 (by kernel_rfl) ?_
        have hmt : mayTake cI s1 = false := by rw [← hbmt]; exact hb_332
        refine fw_oc rfl Try.func36 rfl rfl rfl (tcpTake_bad cI aoI apI coI cpI s1 a7 c7 V325 hmt (hR _ f331).2 (Nat.le_trans hbI.2.1 (by decide)) (fun x hx => Nat.le_trans (hbI.2.2 x hx) (by decide))) ?_
        rintro _ Vhb401 ⟨rfl, hb401⟩
        refine ⟨_, rfl, ?_⟩
        have b402 := b326.trans (hb401.mono b326.size)
        have r403 := r327.below hb401
        have r404 := r328.below hb401
        have r405 := r329.below hb401
        have r406 := r330.below hb401
        have f407 := (Tch.grow f331 hb401)
        have f408 := (below_own hF hb401)
        refine ⟨⟨b402, r403, r404, r405, f407⟩, ?_⟩
        refine fw_tk 5 rfl rfl (by kernel_rfl) (fun _ _ _ _ _ h => h) ?_
        refine fw_tk 6 rfl rfl (by kernel_rfl) (fun _ _ _ _ _ h => h) ?_
        refine fw_tk 7 rfl rfl (by kernel_rfl) (fun _ _ _ _ _ h => h) ?_
        refine fw_tk 8 rfl rfl (by kernel_rfl) (fun _ _ _ _ _ h => h) ?_
        refine fw_tk 9 rfl rfl (by kernel_rfl) (fun _ _ _ _ _ h => h) ?_
        refine fw_o1 10 (by kernel_rfl) ?_
        refine fw_os rfl r406 rfl rfl ?_
        intro W409 s410 r411
        have b412 := below_chg b402 s410 (by omega) b402.size
        have r413 := r403.chg s410 (by omega)
        have r414 := r404.chg s410 (by omega)
        have r415 := r405.chg s410 (by omega)
        have f416 := (Tch.chg f407 s410 (.inr (by omega)))
        refine ⟨⟨b412, r413, r414, r415, f416⟩, ?_⟩
        refine fw_tk 11 rfl rfl (by kernel_rfl) (fun _ _ _ _ _ h => h) ?_
        refine fw_tk 12 rfl rfl (by kernel_rfl) (fun _ _ _ _ _ h => h) ?_
        refine fw_hz (by kernel_rfl) ?_
        refine fw_bn ?_
        refine fw_th ?_
        refine fw_sq ?_
        refine fw_sq ?_
        refine fw_rg rfl ?_
        refine fw_pu rfl ?_
        refine fw_ca Try.func38 rfl rfl rfl ((num16_any 1 W409)) ?_
        rintro _ _ ⟨rfl, rfl⟩
        refine ⟨(.int .i64 1), rfl, ?_⟩
        refine fw_pu rfl ?_
        refine fw_dt ?_
        refine fw_cT rfl rfl ?_
        refine fw_xt ?_
        refine fw_te ?_
        refine fw_be ?_
        refine fw_th ?_
        refine fw_rg rfl ?_
        refine fw_pu rfl ?_
        refine fw_ex 31 (.int .i64 (((i + 1) : Nat) : Int)) rfl rfl rfl (fun a h => (run_binOp (h.ev rfl) (h.ev rfl) (by simp [go_sem]) (addIw _ _ _ _ (by omega) (by omega) (by omega)))) ?_
        refine fw_pu rfl ?_
        refine fw_dn ?_
        exact fw_th (fw_gf (hK38 _ _ _ (by omega) ⟨(i + 1), cI, aoI, apI, coI, cpI, BB, WB, rfl, (by omega), hckI, hbI, hwBB, hqBB, hR, rfl, b412, r413, r414, f416⟩) ⟨rfl, rfl, (by first | rfl | (simp only [Look, cond, Nat.beq]; first | rfl | (congr 2; first | rfl | omega | (push_cast; omega)) | (simp; try omega))), trivial⟩)
      refine fw_cF rfl hb_40 ?_
      refine fw_xt ?_
      refine fw_te ?_
      refine fw_te ?_
      refine fw_be ?_
      refine fw_th ?_
      refine fw_sq ?_
      refine fw_rg rfl ?_
      refine fw_ca Try.func40 rfl rfl rfl ((wakes16_any W36)) ?_
      rintro _ V418 ⟨rfl, hb417⟩
      refine ⟨(.bool true), rfl, ?_⟩
      have b419 := bW36.trans (hb417.mono bW36.size)
      have r420 := rW36_0.below hb417
      have r421 := rW36_1.below hb417
      have f422 := (Tch.grow gW36_0 hb417)
      refine fw_pu rfl ?_
      refine fw_dt ?_
      refine fw_rt ?_
      refine ⟨fun a h => ?_⟩
      exact ow_ret1 rfl h.df (h.g 2 rfl) ⟨rfl, b419⟩
    refine fw_kn 26 rfl hb_39 ?_
    iterate 3 refine fw_pu rfl ?_
    refine fw_dt ?_
    refine fw_cF rfl rfl ?_
    refine fw_xt ?_
    refine fw_te ?_
    refine fw_te ?_
    refine fw_be ?_
    refine fw_th ?_
    refine fw_sq ?_
    refine fw_rg rfl ?_
    refine fw_ca Try.func40 rfl rfl rfl ((wakes16_any W36)) ?_
    rintro _ V424 ⟨rfl, hb423⟩
    refine ⟨(.bool true), rfl, ?_⟩
    have b425 := bW36.trans (hb423.mono bW36.size)
    have r426 := rW36_0.below hb423
    have r427 := rW36_1.below hb423
    have f428 := (Tch.grow gW36_0 hb423)
    refine fw_pu rfl ?_
    refine fw_dt ?_
    refine fw_rt ?_
    refine ⟨fun a h => ?_⟩
    exact ow_ret1 rfl h.df (h.g 2 rfl) ⟨rfl, b425⟩
  refine fw_cT rfl (not_of hb_16) ?_
  refine fw_sq ?_
  refine fw_rg rfl ?_
  refine fw_pu rfl ?_
  refine fw_dt ?_
  refine fw_rt ?_
  refine fw_tr ?_
  refine ⟨fun a h => ?_⟩
  exact ow_ret1 rfl h.df (h.g 2 rfl) ⟨rfl, b14⟩
namespace tcpKeeps
open Go.ChangeShapes Go.WideShapes Go.ChangeAt
theorem own : ownKnob Try.prog.godebug = none := by kernel_rfl
theorem laidOut : laidOutB Try.prog = true := by kernel_rfl
set_option maxRecDepth 100000 in
theorem lifted (os : Os) (started : os.Started) (H : Type) (enc : TypeId × Value → H) :
    ReturnsInHanded {} Try.checked os 7 .any (Rows.tcpKeepsSpec.pre6 enc Try.prog Try.f7 Rows.tcpKeepsRow.domain false) (Rows.tcpKeepsSpec.post enc Try.prog Try.f7 false true false false) := by
  refine returnsInHanded_of_change_sized (C := Try.checked) own started (by kernel_rfl) Try.func7
    (ChangeSpec.witness6 (enc := enc) (C := Try.checked) false ⟨#[], #[.agg #[.int .i64 0, .int .i64 0, .int .i64 0, .int .i64 0, .int .i64 0, .int .i64 0, .int .i64 0, .int .i64 0, .slice none 0 0, .int .i64 0, .slice none 0 0, .bool false, .bool false, .int .i64 0, .int .i64 0, .int .i64 0, .slice none 0 0]], []⟩ 12 (by kernel_rfl) (by kernel_rfl) (by kernel_rfl) (by kernel_rfl)) ?_
  intro W base args ds gs before hval0 hW _ hsz0 _
  have hsz : (DataW.weightsEach Try.prog (Try.f7.params.toList ++ Rows.tcpKeepsSpec.plain.varTypes Try.prog) (ds ++ gs)).all (· ≤ reachBytes) = true := hsz0
  clear hsz0
  have hval : ∀ (j : Nat) t v, Try.f7.params[j]? = some t → args[j]? = some v → Value.okWide Try.prog W .any base t v := hval0
  have hW' := hW
  obtain ⟨p, q, hA0, hV, rfl, hfz, hnd⟩ := hW
  have hA : DataW.TrodAll enc Try.prog W 0 (fun _ => true) true Try.f7.params.toList args.toList ds p := hA0
  rw [Try.params7] at hA hval
  obtain ⟨v0, vs0, d0, ds0, p0, q0, hargs, rfl, rfl, h0, r0⟩ := trodAll_cons hA
  obtain ⟨rfl, rfl, rfl⟩ := trodAll_nil r0
  obtain rfl : args = #[v0] := by cases args; simp_all
  obtain ⟨rfl, rfl⟩ := trodVars_none hV
  obtain ⟨cs0, rfl⟩ : ∃ cs0 : Array Value, v0 = .agg cs0 := by
    have h := hval 0 65 v0 rfl rfl
    unfold Value.okWide at h
    rw [Try.underlying65] at h
    exact ⟨h.choose, h.choose_spec.1⟩
  have k0 := h0
  have lt0 : ∀ x ∈ p0, x.block < W.heap.size := by obtain ⟨m, hm⟩ := k0; exact DataW.trod_lt m _ _ _ hm
  have hrd : RdZ Try.prog W 65 cs0.toList := by obtain ⟨fuel, hf⟩ := h0; exact ⟨H, enc, 0, _, true, fuel, _, hf, by simp only [List.all_eq_true]; intro n hn; exact List.all_eq_true.1 hsz n (DataW.weights_mem_each (j := 0) rfl rfl n hn)⟩
  clear hA0 hval0
  refine (show Calls Try.prog 7 _ W (fun e W' => e = .returned (.bool true) ∧ Below W.heap.size W W') from by have := tcpKeeps_walk W _ hrd; rwa [Array.toArray_toList] at this).mono fun e W' ⟨he, bel⟩ => ?_
  subst he
  exact ⟨_, rfl, _, _, _, [], _, [], hW', trodAll_mk1 (shut_bool Try.underlying4 _), (trodAll_cons_mk (Below.trod laidOut (by kernel_rfl) (of_decide_eq_true (by kernel_rfl)) k0 bel lt0) trodAll_mk0), rfl, bel.frame _, fun h => by cases h⟩
theorem over : Rows.tcpKeepsRow.holds Try.pinned (OpenSpec.ofChange Rows.tcpKeepsSpec) :=
  OpenClaim.holds_of_wide 7 Try.f7 rfl rfl rfl rfl rfl rfl rfl ⟨rfl, rfl, rfl, rfl, rfl⟩ rfl rfl rfl rfl rfl (by kernel_rfl) Try.func7 (by kernel_rfl)
    (of_decide_eq_true (by kernel_rfl)) (by unfold Func.isWrapper; first | (rw [if_pos (by decide +kernel)]; kernel_rfl) | (rw [if_neg (by decide +kernel)]; exact ⟨rfl, rfl⟩))
    (fun os started H enc _ => lifted os started H enc)
/-- THE STATEMENT. -/
theorem proved : Rows.TcpKeepsSaid := over
end tcpKeeps
-- CLAIM: TcpKeeps tcpKeeps.proved
end Go.Proofs.Ytjgbiffgmafhmaa
