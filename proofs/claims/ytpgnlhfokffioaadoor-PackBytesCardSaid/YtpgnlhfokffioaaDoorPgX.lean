/-
  Packets: the form of those that may be; Bytes, by the code.
  Packets: what is read of bytes, by the code and by the page; what may be is read as it was.
-/
import Derived.Test.YtpgnlhfokffioaaDoorPgW
namespace Go.Proofs.YtpgnlhfokffioaaDoor
open Go.RowKit Go.Lib
/-- A packet with nothing in it. -/
def zM (k : Int) : Mq := { k := k, cl := E0, clean := false, keep := 0, wI := false, wT := E0, wP := E0, wQ := 0, wR := false, us := E0, hu := false, pa := E0, hp := false, pres := false, code := 0, cs := [], dup := false, q := 0, re := false, top := E0, id := 0, pay := E0, ws := [], fs := [] }
theorem noB_zM {m : Mq} (h : m.noB = true) : m = zM m.k := by
  obtain ⟨k, cl, clean, keep, wI, wT, wP, wQ, wR, us, hu, pa, hp, pres, code, cs, dup, q, re, top, id, pay, ws, fs⟩ := m
  simp only [Mq.noB, Bool.and_eq_true, Bool.not_eq_true', beq_iff_eq, isE_iff] at h
  obtain ⟨⟨⟨⟨⟨⟨⟨⟨⟨⟨⟨⟨⟨⟨⟨⟨⟨⟨h1, h2⟩, h3⟩, ⟨⟨⟨⟨h4, h5⟩, h6⟩, h7⟩, h8⟩⟩, h9⟩, h10⟩, h11⟩, h12⟩, h13⟩, h14⟩, h15⟩, h16⟩, h17⟩, h18⟩, h19⟩, h20⟩, h21⟩, h22⟩, h23⟩ := h
  have e1 : cs = [] := List.eq_nil_of_length_eq_zero (by omega)
  have e2 : ws = [] := List.eq_nil_of_length_eq_zero (by omega)
  have e3 : fs = [] := List.eq_nil_of_length_eq_zero (by omega)
  subst h1 h2 h3 h4 h5 h6 h7 h8 h9 h10 h11 h12 h13 h14 e1 h16 h17 h18 h19 h20 h21 e2 e3
  rfl
theorem tx_le {s : ByteArray} {lo : Int} {hi : Nat} (h : txG s lo hi = true) : s.size ≤ hi := by
  unfold txG at h
  simp only [Bool.and_eq_true, decide_eq_true_eq] at h
  omega
theorem qs_le {n : Int} (h : qsG n = true) : 0 ≤ n ∧ n ≤ 2 := by
  unfold qsG at h
  simpa using h
theorem ct_le {n : Nat} (h : ctG n = true) : 1 ≤ n ∧ n ≤ 8 := by
  unfold ctG at h
  simp only [Bool.and_eq_true, decide_eq_true_eq] at h
  omega
theorem id_le {n : Int} (h : idG n = true) : 1 ≤ n ∧ n ≤ 65535 := by
  unfold idG at h
  simpa using h
theorem mf_1 {m : Mq} (h : mayG m = true) (hk : m.k = 1) : (cnG m = true) ∧ m = { zM 1 with cl := m.cl, clean := m.clean, keep := m.keep, wI := m.wI, wT := m.wT, wP := m.wP, wQ := m.wQ, wR := m.wR, us := m.us, hu := m.hu, pa := m.pa, hp := m.hp } := by
  unfold mayG at h
  rw [Bool.and_eq_true] at h
  obtain ⟨hv, hb⟩ := h
  obtain ⟨k, cl, clean, keep, wI, wT, wP, wQ, wR, us, hu, pa, hp, pres, code, cs, dup, q, re, top, id, pay, ws, fs⟩ := m
  dsimp only at hk
  subst hk
  have e := noB_zM hb
  have e_pres : pres = false := congrArg Mq.pres e
  have e_code : code = 0 := congrArg Mq.code e
  have e_cs : cs = [] := congrArg Mq.cs e
  have e_dup : dup = false := congrArg Mq.dup e
  have e_q : q = 0 := congrArg Mq.q e
  have e_re : re = false := congrArg Mq.re e
  have e_top : top = E0 := congrArg Mq.top e
  have e_id : id = 0 := congrArg Mq.id e
  have e_pay : pay = E0 := congrArg Mq.pay e
  have e_ws : ws = [] := congrArg Mq.ws e
  have e_fs : fs = [] := congrArg Mq.fs e
  subst e_pres e_code e_cs e_dup e_q e_re e_top e_id e_pay e_ws e_fs
  exact ⟨hv, rfl⟩
theorem mf_2 {m : Mq} (h : mayG m = true) (hk : m.k = 2) : ((decide (0 ≤ m.code) && (decide (m.code ≤ 5) && (!m.pres || m.code == 0))) = true) ∧ m = { zM 2 with pres := m.pres, code := m.code } := by
  unfold mayG at h
  rw [Bool.and_eq_true] at h
  obtain ⟨hv, hb⟩ := h
  obtain ⟨k, cl, clean, keep, wI, wT, wP, wQ, wR, us, hu, pa, hp, pres, code, cs, dup, q, re, top, id, pay, ws, fs⟩ := m
  dsimp only at hk
  subst hk
  have e := noB_zM hb
  have e_cl : cl = E0 := congrArg Mq.cl e
  have e_clean : clean = false := congrArg Mq.clean e
  have e_keep : keep = 0 := congrArg Mq.keep e
  have e_wI : wI = false := congrArg Mq.wI e
  have e_wT : wT = E0 := congrArg Mq.wT e
  have e_wP : wP = E0 := congrArg Mq.wP e
  have e_wQ : wQ = 0 := congrArg Mq.wQ e
  have e_wR : wR = false := congrArg Mq.wR e
  have e_us : us = E0 := congrArg Mq.us e
  have e_hu : hu = false := congrArg Mq.hu e
  have e_pa : pa = E0 := congrArg Mq.pa e
  have e_hp : hp = false := congrArg Mq.hp e
  have e_cs : cs = [] := congrArg Mq.cs e
  have e_dup : dup = false := congrArg Mq.dup e
  have e_q : q = 0 := congrArg Mq.q e
  have e_re : re = false := congrArg Mq.re e
  have e_top : top = E0 := congrArg Mq.top e
  have e_id : id = 0 := congrArg Mq.id e
  have e_pay : pay = E0 := congrArg Mq.pay e
  have e_ws : ws = [] := congrArg Mq.ws e
  have e_fs : fs = [] := congrArg Mq.fs e
  subst e_cl e_clean e_keep e_wI e_wT e_wP e_wQ e_wR e_us e_hu e_pa e_hp e_cs e_dup e_q e_re e_top e_id e_pay e_ws e_fs
  exact ⟨hv, rfl⟩
theorem mf_3 {m : Mq} (h : mayG m = true) (hk : m.k = 3) : (pbG m = true) ∧ m = { zM 3 with top := m.top, q := m.q, re := m.re, pay := m.pay, dup := m.dup, id := m.id } := by
  unfold mayG at h
  rw [Bool.and_eq_true] at h
  obtain ⟨hv, hb⟩ := h
  obtain ⟨k, cl, clean, keep, wI, wT, wP, wQ, wR, us, hu, pa, hp, pres, code, cs, dup, q, re, top, id, pay, ws, fs⟩ := m
  dsimp only at hk
  subst hk
  have e := noB_zM hb
  have e_cl : cl = E0 := congrArg Mq.cl e
  have e_clean : clean = false := congrArg Mq.clean e
  have e_keep : keep = 0 := congrArg Mq.keep e
  have e_wI : wI = false := congrArg Mq.wI e
  have e_wT : wT = E0 := congrArg Mq.wT e
  have e_wP : wP = E0 := congrArg Mq.wP e
  have e_wQ : wQ = 0 := congrArg Mq.wQ e
  have e_wR : wR = false := congrArg Mq.wR e
  have e_us : us = E0 := congrArg Mq.us e
  have e_hu : hu = false := congrArg Mq.hu e
  have e_pa : pa = E0 := congrArg Mq.pa e
  have e_hp : hp = false := congrArg Mq.hp e
  have e_pres : pres = false := congrArg Mq.pres e
  have e_code : code = 0 := congrArg Mq.code e
  have e_cs : cs = [] := congrArg Mq.cs e
  have e_ws : ws = [] := congrArg Mq.ws e
  have e_fs : fs = [] := congrArg Mq.fs e
  subst e_cl e_clean e_keep e_wI e_wT e_wP e_wQ e_wR e_us e_hu e_pa e_hp e_pres e_code e_cs e_ws e_fs
  exact ⟨hv, rfl⟩
theorem mf_4 {m : Mq} (h : mayG m = true) (hk : m.k = 4) : (idG m.id = true) ∧ m = { zM 4 with id := m.id } := by
  unfold mayG at h
  rw [Bool.and_eq_true] at h
  obtain ⟨hv, hb⟩ := h
  obtain ⟨k, cl, clean, keep, wI, wT, wP, wQ, wR, us, hu, pa, hp, pres, code, cs, dup, q, re, top, id, pay, ws, fs⟩ := m
  dsimp only at hk
  subst hk
  have e := noB_zM hb
  have e_cl : cl = E0 := congrArg Mq.cl e
  have e_clean : clean = false := congrArg Mq.clean e
  have e_keep : keep = 0 := congrArg Mq.keep e
  have e_wI : wI = false := congrArg Mq.wI e
  have e_wT : wT = E0 := congrArg Mq.wT e
  have e_wP : wP = E0 := congrArg Mq.wP e
  have e_wQ : wQ = 0 := congrArg Mq.wQ e
  have e_wR : wR = false := congrArg Mq.wR e
  have e_us : us = E0 := congrArg Mq.us e
  have e_hu : hu = false := congrArg Mq.hu e
  have e_pa : pa = E0 := congrArg Mq.pa e
  have e_hp : hp = false := congrArg Mq.hp e
  have e_pres : pres = false := congrArg Mq.pres e
  have e_code : code = 0 := congrArg Mq.code e
  have e_cs : cs = [] := congrArg Mq.cs e
  have e_dup : dup = false := congrArg Mq.dup e
  have e_q : q = 0 := congrArg Mq.q e
  have e_re : re = false := congrArg Mq.re e
  have e_top : top = E0 := congrArg Mq.top e
  have e_pay : pay = E0 := congrArg Mq.pay e
  have e_ws : ws = [] := congrArg Mq.ws e
  have e_fs : fs = [] := congrArg Mq.fs e
  subst e_cl e_clean e_keep e_wI e_wT e_wP e_wQ e_wR e_us e_hu e_pa e_hp e_pres e_code e_cs e_dup e_q e_re e_top e_pay e_ws e_fs
  exact ⟨hv, rfl⟩
theorem mf_5 {m : Mq} (h : mayG m = true) (hk : m.k = 5) : (idG m.id = true) ∧ m = { zM 5 with id := m.id } := by
  unfold mayG at h
  rw [Bool.and_eq_true] at h
  obtain ⟨hv, hb⟩ := h
  obtain ⟨k, cl, clean, keep, wI, wT, wP, wQ, wR, us, hu, pa, hp, pres, code, cs, dup, q, re, top, id, pay, ws, fs⟩ := m
  dsimp only at hk
  subst hk
  have e := noB_zM hb
  have e_cl : cl = E0 := congrArg Mq.cl e
  have e_clean : clean = false := congrArg Mq.clean e
  have e_keep : keep = 0 := congrArg Mq.keep e
  have e_wI : wI = false := congrArg Mq.wI e
  have e_wT : wT = E0 := congrArg Mq.wT e
  have e_wP : wP = E0 := congrArg Mq.wP e
  have e_wQ : wQ = 0 := congrArg Mq.wQ e
  have e_wR : wR = false := congrArg Mq.wR e
  have e_us : us = E0 := congrArg Mq.us e
  have e_hu : hu = false := congrArg Mq.hu e
  have e_pa : pa = E0 := congrArg Mq.pa e
  have e_hp : hp = false := congrArg Mq.hp e
  have e_pres : pres = false := congrArg Mq.pres e
  have e_code : code = 0 := congrArg Mq.code e
  have e_cs : cs = [] := congrArg Mq.cs e
  have e_dup : dup = false := congrArg Mq.dup e
  have e_q : q = 0 := congrArg Mq.q e
  have e_re : re = false := congrArg Mq.re e
  have e_top : top = E0 := congrArg Mq.top e
  have e_pay : pay = E0 := congrArg Mq.pay e
  have e_ws : ws = [] := congrArg Mq.ws e
  have e_fs : fs = [] := congrArg Mq.fs e
  subst e_cl e_clean e_keep e_wI e_wT e_wP e_wQ e_wR e_us e_hu e_pa e_hp e_pres e_code e_cs e_dup e_q e_re e_top e_pay e_ws e_fs
  exact ⟨hv, rfl⟩
theorem mf_6 {m : Mq} (h : mayG m = true) (hk : m.k = 6) : (idG m.id = true) ∧ m = { zM 6 with id := m.id } := by
  unfold mayG at h
  rw [Bool.and_eq_true] at h
  obtain ⟨hv, hb⟩ := h
  obtain ⟨k, cl, clean, keep, wI, wT, wP, wQ, wR, us, hu, pa, hp, pres, code, cs, dup, q, re, top, id, pay, ws, fs⟩ := m
  dsimp only at hk
  subst hk
  have e := noB_zM hb
  have e_cl : cl = E0 := congrArg Mq.cl e
  have e_clean : clean = false := congrArg Mq.clean e
  have e_keep : keep = 0 := congrArg Mq.keep e
  have e_wI : wI = false := congrArg Mq.wI e
  have e_wT : wT = E0 := congrArg Mq.wT e
  have e_wP : wP = E0 := congrArg Mq.wP e
  have e_wQ : wQ = 0 := congrArg Mq.wQ e
  have e_wR : wR = false := congrArg Mq.wR e
  have e_us : us = E0 := congrArg Mq.us e
  have e_hu : hu = false := congrArg Mq.hu e
  have e_pa : pa = E0 := congrArg Mq.pa e
  have e_hp : hp = false := congrArg Mq.hp e
  have e_pres : pres = false := congrArg Mq.pres e
  have e_code : code = 0 := congrArg Mq.code e
  have e_cs : cs = [] := congrArg Mq.cs e
  have e_dup : dup = false := congrArg Mq.dup e
  have e_q : q = 0 := congrArg Mq.q e
  have e_re : re = false := congrArg Mq.re e
  have e_top : top = E0 := congrArg Mq.top e
  have e_pay : pay = E0 := congrArg Mq.pay e
  have e_ws : ws = [] := congrArg Mq.ws e
  have e_fs : fs = [] := congrArg Mq.fs e
  subst e_cl e_clean e_keep e_wI e_wT e_wP e_wQ e_wR e_us e_hu e_pa e_hp e_pres e_code e_cs e_dup e_q e_re e_top e_pay e_ws e_fs
  exact ⟨hv, rfl⟩
theorem mf_7 {m : Mq} (h : mayG m = true) (hk : m.k = 7) : (idG m.id = true) ∧ m = { zM 7 with id := m.id } := by
  unfold mayG at h
  rw [Bool.and_eq_true] at h
  obtain ⟨hv, hb⟩ := h
  obtain ⟨k, cl, clean, keep, wI, wT, wP, wQ, wR, us, hu, pa, hp, pres, code, cs, dup, q, re, top, id, pay, ws, fs⟩ := m
  dsimp only at hk
  subst hk
  have e := noB_zM hb
  have e_cl : cl = E0 := congrArg Mq.cl e
  have e_clean : clean = false := congrArg Mq.clean e
  have e_keep : keep = 0 := congrArg Mq.keep e
  have e_wI : wI = false := congrArg Mq.wI e
  have e_wT : wT = E0 := congrArg Mq.wT e
  have e_wP : wP = E0 := congrArg Mq.wP e
  have e_wQ : wQ = 0 := congrArg Mq.wQ e
  have e_wR : wR = false := congrArg Mq.wR e
  have e_us : us = E0 := congrArg Mq.us e
  have e_hu : hu = false := congrArg Mq.hu e
  have e_pa : pa = E0 := congrArg Mq.pa e
  have e_hp : hp = false := congrArg Mq.hp e
  have e_pres : pres = false := congrArg Mq.pres e
  have e_code : code = 0 := congrArg Mq.code e
  have e_cs : cs = [] := congrArg Mq.cs e
  have e_dup : dup = false := congrArg Mq.dup e
  have e_q : q = 0 := congrArg Mq.q e
  have e_re : re = false := congrArg Mq.re e
  have e_top : top = E0 := congrArg Mq.top e
  have e_pay : pay = E0 := congrArg Mq.pay e
  have e_ws : ws = [] := congrArg Mq.ws e
  have e_fs : fs = [] := congrArg Mq.fs e
  subst e_cl e_clean e_keep e_wI e_wT e_wP e_wQ e_wR e_us e_hu e_pa e_hp e_pres e_code e_cs e_dup e_q e_re e_top e_pay e_ws e_fs
  exact ⟨hv, rfl⟩
theorem mf_8 {m : Mq} (h : mayG m = true) (hk : m.k = 8) : ((idG m.id && (ctG m.ws.length && wsG m.ws)) = true) ∧ m = { zM 8 with id := m.id, ws := m.ws } := by
  unfold mayG at h
  rw [Bool.and_eq_true] at h
  obtain ⟨hv, hb⟩ := h
  obtain ⟨k, cl, clean, keep, wI, wT, wP, wQ, wR, us, hu, pa, hp, pres, code, cs, dup, q, re, top, id, pay, ws, fs⟩ := m
  dsimp only at hk
  subst hk
  have e := noB_zM hb
  have e_cl : cl = E0 := congrArg Mq.cl e
  have e_clean : clean = false := congrArg Mq.clean e
  have e_keep : keep = 0 := congrArg Mq.keep e
  have e_wI : wI = false := congrArg Mq.wI e
  have e_wT : wT = E0 := congrArg Mq.wT e
  have e_wP : wP = E0 := congrArg Mq.wP e
  have e_wQ : wQ = 0 := congrArg Mq.wQ e
  have e_wR : wR = false := congrArg Mq.wR e
  have e_us : us = E0 := congrArg Mq.us e
  have e_hu : hu = false := congrArg Mq.hu e
  have e_pa : pa = E0 := congrArg Mq.pa e
  have e_hp : hp = false := congrArg Mq.hp e
  have e_pres : pres = false := congrArg Mq.pres e
  have e_code : code = 0 := congrArg Mq.code e
  have e_cs : cs = [] := congrArg Mq.cs e
  have e_dup : dup = false := congrArg Mq.dup e
  have e_q : q = 0 := congrArg Mq.q e
  have e_re : re = false := congrArg Mq.re e
  have e_top : top = E0 := congrArg Mq.top e
  have e_pay : pay = E0 := congrArg Mq.pay e
  have e_fs : fs = [] := congrArg Mq.fs e
  subst e_cl e_clean e_keep e_wI e_wT e_wP e_wQ e_wR e_us e_hu e_pa e_hp e_pres e_code e_cs e_dup e_q e_re e_top e_pay e_fs
  exact ⟨hv, rfl⟩
theorem mf_9 {m : Mq} (h : mayG m = true) (hk : m.k = 9) : ((idG m.id && (ctG m.cs.length && csG m.cs)) = true) ∧ m = { zM 9 with id := m.id, cs := m.cs } := by
  unfold mayG at h
  rw [Bool.and_eq_true] at h
  obtain ⟨hv, hb⟩ := h
  obtain ⟨k, cl, clean, keep, wI, wT, wP, wQ, wR, us, hu, pa, hp, pres, code, cs, dup, q, re, top, id, pay, ws, fs⟩ := m
  dsimp only at hk
  subst hk
  have e := noB_zM hb
  have e_cl : cl = E0 := congrArg Mq.cl e
  have e_clean : clean = false := congrArg Mq.clean e
  have e_keep : keep = 0 := congrArg Mq.keep e
  have e_wI : wI = false := congrArg Mq.wI e
  have e_wT : wT = E0 := congrArg Mq.wT e
  have e_wP : wP = E0 := congrArg Mq.wP e
  have e_wQ : wQ = 0 := congrArg Mq.wQ e
  have e_wR : wR = false := congrArg Mq.wR e
  have e_us : us = E0 := congrArg Mq.us e
  have e_hu : hu = false := congrArg Mq.hu e
  have e_pa : pa = E0 := congrArg Mq.pa e
  have e_hp : hp = false := congrArg Mq.hp e
  have e_pres : pres = false := congrArg Mq.pres e
  have e_code : code = 0 := congrArg Mq.code e
  have e_dup : dup = false := congrArg Mq.dup e
  have e_q : q = 0 := congrArg Mq.q e
  have e_re : re = false := congrArg Mq.re e
  have e_top : top = E0 := congrArg Mq.top e
  have e_pay : pay = E0 := congrArg Mq.pay e
  have e_ws : ws = [] := congrArg Mq.ws e
  have e_fs : fs = [] := congrArg Mq.fs e
  subst e_cl e_clean e_keep e_wI e_wT e_wP e_wQ e_wR e_us e_hu e_pa e_hp e_pres e_code e_dup e_q e_re e_top e_pay e_ws e_fs
  exact ⟨hv, rfl⟩
theorem mf_10 {m : Mq} (h : mayG m = true) (hk : m.k = 10) : ((idG m.id && (ctG m.fs.length && fsG m.fs)) = true) ∧ m = { zM 10 with id := m.id, fs := m.fs } := by
  unfold mayG at h
  rw [Bool.and_eq_true] at h
  obtain ⟨hv, hb⟩ := h
  obtain ⟨k, cl, clean, keep, wI, wT, wP, wQ, wR, us, hu, pa, hp, pres, code, cs, dup, q, re, top, id, pay, ws, fs⟩ := m
  dsimp only at hk
  subst hk
  have e := noB_zM hb
  have e_cl : cl = E0 := congrArg Mq.cl e
  have e_clean : clean = false := congrArg Mq.clean e
  have e_keep : keep = 0 := congrArg Mq.keep e
  have e_wI : wI = false := congrArg Mq.wI e
  have e_wT : wT = E0 := congrArg Mq.wT e
  have e_wP : wP = E0 := congrArg Mq.wP e
  have e_wQ : wQ = 0 := congrArg Mq.wQ e
  have e_wR : wR = false := congrArg Mq.wR e
  have e_us : us = E0 := congrArg Mq.us e
  have e_hu : hu = false := congrArg Mq.hu e
  have e_pa : pa = E0 := congrArg Mq.pa e
  have e_hp : hp = false := congrArg Mq.hp e
  have e_pres : pres = false := congrArg Mq.pres e
  have e_code : code = 0 := congrArg Mq.code e
  have e_cs : cs = [] := congrArg Mq.cs e
  have e_dup : dup = false := congrArg Mq.dup e
  have e_q : q = 0 := congrArg Mq.q e
  have e_re : re = false := congrArg Mq.re e
  have e_top : top = E0 := congrArg Mq.top e
  have e_pay : pay = E0 := congrArg Mq.pay e
  have e_ws : ws = [] := congrArg Mq.ws e
  subst e_cl e_clean e_keep e_wI e_wT e_wP e_wQ e_wR e_us e_hu e_pa e_hp e_pres e_code e_cs e_dup e_q e_re e_top e_pay e_ws
  exact ⟨hv, rfl⟩
theorem mf_11 {m : Mq} (h : mayG m = true) (hk : m.k = 11) : (idG m.id = true) ∧ m = { zM 11 with id := m.id } := by
  unfold mayG at h
  rw [Bool.and_eq_true] at h
  obtain ⟨hv, hb⟩ := h
  obtain ⟨k, cl, clean, keep, wI, wT, wP, wQ, wR, us, hu, pa, hp, pres, code, cs, dup, q, re, top, id, pay, ws, fs⟩ := m
  dsimp only at hk
  subst hk
  have e := noB_zM hb
  have e_cl : cl = E0 := congrArg Mq.cl e
  have e_clean : clean = false := congrArg Mq.clean e
  have e_keep : keep = 0 := congrArg Mq.keep e
  have e_wI : wI = false := congrArg Mq.wI e
  have e_wT : wT = E0 := congrArg Mq.wT e
  have e_wP : wP = E0 := congrArg Mq.wP e
  have e_wQ : wQ = 0 := congrArg Mq.wQ e
  have e_wR : wR = false := congrArg Mq.wR e
  have e_us : us = E0 := congrArg Mq.us e
  have e_hu : hu = false := congrArg Mq.hu e
  have e_pa : pa = E0 := congrArg Mq.pa e
  have e_hp : hp = false := congrArg Mq.hp e
  have e_pres : pres = false := congrArg Mq.pres e
  have e_code : code = 0 := congrArg Mq.code e
  have e_cs : cs = [] := congrArg Mq.cs e
  have e_dup : dup = false := congrArg Mq.dup e
  have e_q : q = 0 := congrArg Mq.q e
  have e_re : re = false := congrArg Mq.re e
  have e_top : top = E0 := congrArg Mq.top e
  have e_pay : pay = E0 := congrArg Mq.pay e
  have e_ws : ws = [] := congrArg Mq.ws e
  have e_fs : fs = [] := congrArg Mq.fs e
  subst e_cl e_clean e_keep e_wI e_wT e_wP e_wQ e_wR e_us e_hu e_pa e_hp e_pres e_code e_cs e_dup e_q e_re e_top e_pay e_ws e_fs
  exact ⟨hv, rfl⟩
theorem mf_12 {m : Mq} (h : mayG m = true) (hk : m.k = 12) : (True) ∧ m = zM 12 := by
  unfold mayG at h
  rw [Bool.and_eq_true] at h
  obtain ⟨hv, hb⟩ := h
  obtain ⟨k, cl, clean, keep, wI, wT, wP, wQ, wR, us, hu, pa, hp, pres, code, cs, dup, q, re, top, id, pay, ws, fs⟩ := m
  dsimp only at hk
  subst hk
  have e := noB_zM hb
  have e_cl : cl = E0 := congrArg Mq.cl e
  have e_clean : clean = false := congrArg Mq.clean e
  have e_keep : keep = 0 := congrArg Mq.keep e
  have e_wI : wI = false := congrArg Mq.wI e
  have e_wT : wT = E0 := congrArg Mq.wT e
  have e_wP : wP = E0 := congrArg Mq.wP e
  have e_wQ : wQ = 0 := congrArg Mq.wQ e
  have e_wR : wR = false := congrArg Mq.wR e
  have e_us : us = E0 := congrArg Mq.us e
  have e_hu : hu = false := congrArg Mq.hu e
  have e_pa : pa = E0 := congrArg Mq.pa e
  have e_hp : hp = false := congrArg Mq.hp e
  have e_pres : pres = false := congrArg Mq.pres e
  have e_code : code = 0 := congrArg Mq.code e
  have e_cs : cs = [] := congrArg Mq.cs e
  have e_dup : dup = false := congrArg Mq.dup e
  have e_q : q = 0 := congrArg Mq.q e
  have e_re : re = false := congrArg Mq.re e
  have e_top : top = E0 := congrArg Mq.top e
  have e_id : id = 0 := congrArg Mq.id e
  have e_pay : pay = E0 := congrArg Mq.pay e
  have e_ws : ws = [] := congrArg Mq.ws e
  have e_fs : fs = [] := congrArg Mq.fs e
  subst e_cl e_clean e_keep e_wI e_wT e_wP e_wQ e_wR e_us e_hu e_pa e_hp e_pres e_code e_cs e_dup e_q e_re e_top e_id e_pay e_ws e_fs
  exact ⟨trivial, rfl⟩
theorem mf_13 {m : Mq} (h : mayG m = true) (hk : m.k = 13) : (True) ∧ m = zM 13 := by
  unfold mayG at h
  rw [Bool.and_eq_true] at h
  obtain ⟨hv, hb⟩ := h
  obtain ⟨k, cl, clean, keep, wI, wT, wP, wQ, wR, us, hu, pa, hp, pres, code, cs, dup, q, re, top, id, pay, ws, fs⟩ := m
  dsimp only at hk
  subst hk
  have e := noB_zM hb
  have e_cl : cl = E0 := congrArg Mq.cl e
  have e_clean : clean = false := congrArg Mq.clean e
  have e_keep : keep = 0 := congrArg Mq.keep e
  have e_wI : wI = false := congrArg Mq.wI e
  have e_wT : wT = E0 := congrArg Mq.wT e
  have e_wP : wP = E0 := congrArg Mq.wP e
  have e_wQ : wQ = 0 := congrArg Mq.wQ e
  have e_wR : wR = false := congrArg Mq.wR e
  have e_us : us = E0 := congrArg Mq.us e
  have e_hu : hu = false := congrArg Mq.hu e
  have e_pa : pa = E0 := congrArg Mq.pa e
  have e_hp : hp = false := congrArg Mq.hp e
  have e_pres : pres = false := congrArg Mq.pres e
  have e_code : code = 0 := congrArg Mq.code e
  have e_cs : cs = [] := congrArg Mq.cs e
  have e_dup : dup = false := congrArg Mq.dup e
  have e_q : q = 0 := congrArg Mq.q e
  have e_re : re = false := congrArg Mq.re e
  have e_top : top = E0 := congrArg Mq.top e
  have e_id : id = 0 := congrArg Mq.id e
  have e_pay : pay = E0 := congrArg Mq.pay e
  have e_ws : ws = [] := congrArg Mq.ws e
  have e_fs : fs = [] := congrArg Mq.fs e
  subst e_cl e_clean e_keep e_wI e_wT e_wP e_wQ e_wR e_us e_hu e_pa e_hp e_pres e_code e_cs e_dup e_q e_re e_top e_id e_pay e_ws e_fs
  exact ⟨trivial, rfl⟩
theorem mf_14 {m : Mq} (h : mayG m = true) (hk : m.k = 14) : (True) ∧ m = zM 14 := by
  unfold mayG at h
  rw [Bool.and_eq_true] at h
  obtain ⟨hv, hb⟩ := h
  obtain ⟨k, cl, clean, keep, wI, wT, wP, wQ, wR, us, hu, pa, hp, pres, code, cs, dup, q, re, top, id, pay, ws, fs⟩ := m
  dsimp only at hk
  subst hk
  have e := noB_zM hb
  have e_cl : cl = E0 := congrArg Mq.cl e
  have e_clean : clean = false := congrArg Mq.clean e
  have e_keep : keep = 0 := congrArg Mq.keep e
  have e_wI : wI = false := congrArg Mq.wI e
  have e_wT : wT = E0 := congrArg Mq.wT e
  have e_wP : wP = E0 := congrArg Mq.wP e
  have e_wQ : wQ = 0 := congrArg Mq.wQ e
  have e_wR : wR = false := congrArg Mq.wR e
  have e_us : us = E0 := congrArg Mq.us e
  have e_hu : hu = false := congrArg Mq.hu e
  have e_pa : pa = E0 := congrArg Mq.pa e
  have e_hp : hp = false := congrArg Mq.hp e
  have e_pres : pres = false := congrArg Mq.pres e
  have e_code : code = 0 := congrArg Mq.code e
  have e_cs : cs = [] := congrArg Mq.cs e
  have e_dup : dup = false := congrArg Mq.dup e
  have e_q : q = 0 := congrArg Mq.q e
  have e_re : re = false := congrArg Mq.re e
  have e_top : top = E0 := congrArg Mq.top e
  have e_id : id = 0 := congrArg Mq.id e
  have e_pay : pay = E0 := congrArg Mq.pay e
  have e_ws : ws = [] := congrArg Mq.ws e
  have e_fs : fs = [] := congrArg Mq.fs e
  subst e_cl e_clean e_keep e_wI e_wT e_wP e_wQ e_wR e_us e_hu e_pa e_hp e_pres e_code e_cs e_dup e_q e_re e_top e_id e_pay e_ws e_fs
  exact ⟨trivial, rfl⟩
theorem may_kind {m : Mq} (h : mayG m = true) : m.k = 1 ∨ m.k = 2 ∨ m.k = 3 ∨ m.k = 4 ∨ m.k = 5 ∨ m.k = 6 ∨ m.k = 7 ∨ m.k = 8 ∨ m.k = 9 ∨ m.k = 10 ∨ m.k = 11 ∨ m.k = 12 ∨ m.k = 13 ∨ m.k = 14 := by
  by_cases h1 : m.k = 1
  · exact .inl h1
  by_cases h2 : m.k = 2
  · exact .inr (.inl h2)
  by_cases h3 : m.k = 3
  · exact .inr (.inr (.inl h3))
  by_cases h4 : m.k = 4
  · exact .inr (.inr (.inr (.inl h4)))
  by_cases h5 : m.k = 5
  · exact .inr (.inr (.inr (.inr (.inl h5))))
  by_cases h6 : m.k = 6
  · exact .inr (.inr (.inr (.inr (.inr (.inl h6)))))
  by_cases h7 : m.k = 7
  · exact .inr (.inr (.inr (.inr (.inr (.inr (.inl h7))))))
  by_cases h8 : m.k = 8
  · exact .inr (.inr (.inr (.inr (.inr (.inr (.inr (.inl h8)))))))
  by_cases h9 : m.k = 9
  · exact .inr (.inr (.inr (.inr (.inr (.inr (.inr (.inr (.inl h9))))))))
  by_cases h10 : m.k = 10
  · exact .inr (.inr (.inr (.inr (.inr (.inr (.inr (.inr (.inr (.inl h10)))))))))
  by_cases h11 : m.k = 11
  · exact .inr (.inr (.inr (.inr (.inr (.inr (.inr (.inr (.inr (.inr (.inl h11))))))))))
  by_cases h12 : m.k = 12
  · exact .inr (.inr (.inr (.inr (.inr (.inr (.inr (.inr (.inr (.inr (.inr (.inl h12)))))))))))
  by_cases h13 : m.k = 13
  · exact .inr (.inr (.inr (.inr (.inr (.inr (.inr (.inr (.inr (.inr (.inr (.inr (.inl h13))))))))))))
  by_cases h14 : m.k = 14
  · exact .inr (.inr (.inr (.inr (.inr (.inr (.inr (.inr (.inr (.inr (.inr (.inr (.inr (h14)))))))))))))
  unfold mayG at h
  rw [Bool.and_eq_true] at h
  have hv := h.1
  have g : ∀ a : Int, m.k ≠ a → (m.k == a) = false := fun a ha => by rw [beq_eq_false_iff_ne]; exact ha
  unfold vaG at hv
  simp [g _ h1, g _ h2, g _ h3, g _ h4, g _ h5, g _ h6, g _ h7, g _ h8, g _ h9, g _ h10, g _ h11, g _ h12, g _ h13, g _ h14] at hv
theorem may_small {m : Mq} (h : mayG m = true) : Small m := by
  rcases may_kind h with hk | hk | hk | hk | hk | hk | hk | hk | hk | hk | hk | hk | hk | hk
  · obtain ⟨hc, e⟩ := mf_1 h hk
    unfold cnG at hc
    simp only [Bool.and_eq_true, Bool.not_eq_true', decide_eq_false_iff_not] at hc
    obtain ⟨⟨c1, c2, c3, c4⟩, ⟨c5, c6⟩, c7, c8, c9⟩ := hc
    have d1 := tx_le (hi := 23) c1
    have d2 := tx_le (hi := 64) c5
    have hw : m.wT.size ≤ 1000 ∧ m.wP.size ≤ 1000 ∧ (0 ≤ m.wQ ∧ m.wQ ≤ 2) := by
      unfold wlG at c4
      split at c4
      · simp only [Bool.and_eq_true, decide_eq_true_eq] at c4
        have := tx_le (hi := 64) c4.1
        exact ⟨by omega, by omega, qs_le c4.2.2⟩
      · simp only [Bool.and_eq_true, beq_iff_eq, isE_size] at c4
        exact ⟨by omega, by omega, by omega⟩
    rw [e]
    exact ⟨(show (1 : Int) ≤ 1 ∧ (1 : Int) ≤ 14 by decide), (show m.cl.size ≤ 1000 by omega), hw.1, hw.2.1, (show m.us.size ≤ 1000 by omega), (show m.pa.size ≤ 1000 by omega), (Nat.zero_le _), (Nat.zero_le _), hw.2.2, (show (0 : Int) ≤ 0 ∧ (0 : Int) ≤ 2 by decide), (Nat.zero_le _), (Nat.zero_le _), (Nat.zero_le _), (fun s hs => (nomatch hs)), (fun s hs => (nomatch hs))⟩
  · rw [(mf_2 h hk).2]
    exact ⟨(show (1 : Int) ≤ 2 ∧ (2 : Int) ≤ 14 by decide), (Nat.zero_le _), (Nat.zero_le _), (Nat.zero_le _), (Nat.zero_le _), (Nat.zero_le _), (Nat.zero_le _), (Nat.zero_le _), (show (0 : Int) ≤ 0 ∧ (0 : Int) ≤ 2 by decide), (show (0 : Int) ≤ 0 ∧ (0 : Int) ≤ 2 by decide), (Nat.zero_le _), (Nat.zero_le _), (Nat.zero_le _), (fun s hs => (nomatch hs)), (fun s hs => (nomatch hs))⟩
  · obtain ⟨hc, e⟩ := mf_3 h hk
    unfold pbG tpG at hc
    simp only [Bool.and_eq_true, Bool.not_eq_true', decide_eq_false_iff_not] at hc
    obtain ⟨⟨c1, -⟩, c2, c3, -⟩ := hc
    have d1 := tx_le (hi := 64) c1
    rw [e]
    exact ⟨(show (1 : Int) ≤ 3 ∧ (3 : Int) ≤ 14 by decide), (Nat.zero_le _), (Nat.zero_le _), (Nat.zero_le _), (Nat.zero_le _), (Nat.zero_le _), (show m.top.size ≤ 1000 by omega), (show m.pay.size ≤ 1000 by omega), (show (0 : Int) ≤ 0 ∧ (0 : Int) ≤ 2 by decide), (qs_le c2), (Nat.zero_le _), (Nat.zero_le _), (Nat.zero_le _), (fun s hs => (nomatch hs)), (fun s hs => (nomatch hs))⟩
  · rw [(mf_4 h hk).2]
    exact ⟨(show (1 : Int) ≤ 4 ∧ (4 : Int) ≤ 14 by decide), (Nat.zero_le _), (Nat.zero_le _), (Nat.zero_le _), (Nat.zero_le _), (Nat.zero_le _), (Nat.zero_le _), (Nat.zero_le _), (show (0 : Int) ≤ 0 ∧ (0 : Int) ≤ 2 by decide), (show (0 : Int) ≤ 0 ∧ (0 : Int) ≤ 2 by decide), (Nat.zero_le _), (Nat.zero_le _), (Nat.zero_le _), (fun s hs => (nomatch hs)), (fun s hs => (nomatch hs))⟩
  · rw [(mf_5 h hk).2]
    exact ⟨(show (1 : Int) ≤ 5 ∧ (5 : Int) ≤ 14 by decide), (Nat.zero_le _), (Nat.zero_le _), (Nat.zero_le _), (Nat.zero_le _), (Nat.zero_le _), (Nat.zero_le _), (Nat.zero_le _), (show (0 : Int) ≤ 0 ∧ (0 : Int) ≤ 2 by decide), (show (0 : Int) ≤ 0 ∧ (0 : Int) ≤ 2 by decide), (Nat.zero_le _), (Nat.zero_le _), (Nat.zero_le _), (fun s hs => (nomatch hs)), (fun s hs => (nomatch hs))⟩
  · rw [(mf_6 h hk).2]
    exact ⟨(show (1 : Int) ≤ 6 ∧ (6 : Int) ≤ 14 by decide), (Nat.zero_le _), (Nat.zero_le _), (Nat.zero_le _), (Nat.zero_le _), (Nat.zero_le _), (Nat.zero_le _), (Nat.zero_le _), (show (0 : Int) ≤ 0 ∧ (0 : Int) ≤ 2 by decide), (show (0 : Int) ≤ 0 ∧ (0 : Int) ≤ 2 by decide), (Nat.zero_le _), (Nat.zero_le _), (Nat.zero_le _), (fun s hs => (nomatch hs)), (fun s hs => (nomatch hs))⟩
  · rw [(mf_7 h hk).2]
    exact ⟨(show (1 : Int) ≤ 7 ∧ (7 : Int) ≤ 14 by decide), (Nat.zero_le _), (Nat.zero_le _), (Nat.zero_le _), (Nat.zero_le _), (Nat.zero_le _), (Nat.zero_le _), (Nat.zero_le _), (show (0 : Int) ≤ 0 ∧ (0 : Int) ≤ 2 by decide), (show (0 : Int) ≤ 0 ∧ (0 : Int) ≤ 2 by decide), (Nat.zero_le _), (Nat.zero_le _), (Nat.zero_le _), (fun s hs => (nomatch hs)), (fun s hs => (nomatch hs))⟩
  · obtain ⟨hc, e⟩ := mf_8 h hk
    simp only [Bool.and_eq_true] at hc
    rw [e]
    exact ⟨(show (1 : Int) ≤ 8 ∧ (8 : Int) ≤ 14 by decide), (Nat.zero_le _), (Nat.zero_le _), (Nat.zero_le _), (Nat.zero_le _), (Nat.zero_le _), (Nat.zero_le _), (Nat.zero_le _), (show (0 : Int) ≤ 0 ∧ (0 : Int) ≤ 2 by decide), (show (0 : Int) ≤ 0 ∧ (0 : Int) ≤ 2 by decide), (Nat.zero_le _), (ct_le hc.2.1).2, (Nat.zero_le _), (fun s hs => by have h2 := List.all_eq_true.1 hc.2.2 s hs; unfold wishG at h2; rw [Bool.and_eq_true] at h2; have := tx_le (hi := 64) h2.1; omega), (fun s hs => (nomatch hs))⟩
  · obtain ⟨hc, e⟩ := mf_9 h hk
    simp only [Bool.and_eq_true] at hc
    rw [e]
    exact ⟨(show (1 : Int) ≤ 9 ∧ (9 : Int) ≤ 14 by decide), (Nat.zero_le _), (Nat.zero_le _), (Nat.zero_le _), (Nat.zero_le _), (Nat.zero_le _), (Nat.zero_le _), (Nat.zero_le _), (show (0 : Int) ≤ 0 ∧ (0 : Int) ≤ 2 by decide), (show (0 : Int) ≤ 0 ∧ (0 : Int) ≤ 2 by decide), (ct_le hc.2.1).2, (Nat.zero_le _), (Nat.zero_le _), (fun s hs => (nomatch hs)), (fun s hs => (nomatch hs))⟩
  · obtain ⟨hc, e⟩ := mf_10 h hk
    simp only [Bool.and_eq_true] at hc
    rw [e]
    exact ⟨(show (1 : Int) ≤ 10 ∧ (10 : Int) ≤ 14 by decide), (Nat.zero_le _), (Nat.zero_le _), (Nat.zero_le _), (Nat.zero_le _), (Nat.zero_le _), (Nat.zero_le _), (Nat.zero_le _), (show (0 : Int) ≤ 0 ∧ (0 : Int) ≤ 2 by decide), (show (0 : Int) ≤ 0 ∧ (0 : Int) ≤ 2 by decide), (Nat.zero_le _), (Nat.zero_le _), (ct_le hc.2.1).2, (fun s hs => (nomatch hs)), (fun s hs => by have h2 := List.all_eq_true.1 hc.2.2 s hs; unfold filtG at h2; have := tx_le (hi := 64) h2; omega)⟩
  · rw [(mf_11 h hk).2]
    exact ⟨(show (1 : Int) ≤ 11 ∧ (11 : Int) ≤ 14 by decide), (Nat.zero_le _), (Nat.zero_le _), (Nat.zero_le _), (Nat.zero_le _), (Nat.zero_le _), (Nat.zero_le _), (Nat.zero_le _), (show (0 : Int) ≤ 0 ∧ (0 : Int) ≤ 2 by decide), (show (0 : Int) ≤ 0 ∧ (0 : Int) ≤ 2 by decide), (Nat.zero_le _), (Nat.zero_le _), (Nat.zero_le _), (fun s hs => (nomatch hs)), (fun s hs => (nomatch hs))⟩
  · rw [(mf_12 h hk).2]
    exact ⟨(show (1 : Int) ≤ 12 ∧ (12 : Int) ≤ 14 by decide), (Nat.zero_le _), (Nat.zero_le _), (Nat.zero_le _), (Nat.zero_le _), (Nat.zero_le _), (Nat.zero_le _), (Nat.zero_le _), (show (0 : Int) ≤ 0 ∧ (0 : Int) ≤ 2 by decide), (show (0 : Int) ≤ 0 ∧ (0 : Int) ≤ 2 by decide), (Nat.zero_le _), (Nat.zero_le _), (Nat.zero_le _), (fun s hs => (nomatch hs)), (fun s hs => (nomatch hs))⟩
  · rw [(mf_13 h hk).2]
    exact ⟨(show (1 : Int) ≤ 13 ∧ (13 : Int) ≤ 14 by decide), (Nat.zero_le _), (Nat.zero_le _), (Nat.zero_le _), (Nat.zero_le _), (Nat.zero_le _), (Nat.zero_le _), (Nat.zero_le _), (show (0 : Int) ≤ 0 ∧ (0 : Int) ≤ 2 by decide), (show (0 : Int) ≤ 0 ∧ (0 : Int) ≤ 2 by decide), (Nat.zero_le _), (Nat.zero_le _), (Nat.zero_le _), (fun s hs => (nomatch hs)), (fun s hs => (nomatch hs))⟩
  · rw [(mf_14 h hk).2]
    exact ⟨(show (1 : Int) ≤ 14 ∧ (14 : Int) ≤ 14 by decide), (Nat.zero_le _), (Nat.zero_le _), (Nat.zero_le _), (Nat.zero_le _), (Nat.zero_le _), (Nat.zero_le _), (Nat.zero_le _), (show (0 : Int) ≤ 0 ∧ (0 : Int) ≤ 2 by decide), (show (0 : Int) ≤ 0 ∧ (0 : Int) ≤ 2 by decide), (Nat.zero_le _), (Nat.zero_le _), (Nat.zero_le _), (fun s hs => (nomatch hs)), (fun s hs => (nomatch hs))⟩
theorem lenB_len : ∀ (k n : Nat), (lenB k n).length ≤ k + 1
  | 0, n => by unfold lenB; exact Nat.le_refl _
  | k + 1, n => by
    unfold lenB
    split
    · simp
    · rw [List.length_cons]; have := lenB_len k (n / 128); omega
theorem lenG_len (n : Nat) : (lenG n).length ≤ 5 := lenB_len 4 n
set_option maxRecDepth 100000 in
set_option maxHeartbeats 4000000 in
theorem bytesNo (m : Mq) (ac aw af : Option Addr) (nc nw nf cc cw cf : Nat) (w : World) (hL : m.Lists w (.slice ac nc cc) (.slice aw nw cw) (.slice af nf cf)) (hF : m.Far) (hT : Tabs w) (hm : mayG m = false) :
    Calls Tryd.prog 24 #[.agg (Mq.row m (.slice ac nc cc) (.slice aw nw cw) (.slice af nf cf)).toArray] w fun e w' => e = .returned (.tuple #[.slice none 0 0, .int .i64 1]) ∧ Below w.heap.size w w' := by
  obtain rfl : nc = m.cs.length := by have := slR_len hL.c; simpa using this
  obtain rfl : nw = m.ws.length := by have := slR_len hL.w; simpa using this
  obtain rfl : nf = m.fs.length := by have := slR_len hL.f; simpa using this
  have hb0 := Below.refl w.heap.size w
  refine fw_en 26 [(0, .agg (Mq.row m (.slice ac m.cs.length cc) (.slice aw m.ws.length cw) (.slice af m.fs.length cf)).toArray)] Tryd.func24 rfl Tryd.ntmps24 rfl ⟨rfl, trivial⟩ ?_
  refine fw_sq ?_
  refine fw_rg rfl ?_
  refine fw_bx rfl (cs := [.int .i64 m.k, .string m.cl, .bool m.clean, .int .i64 m.keep, .bool m.wI, .string m.wT, .string m.wP, .int .i64 m.wQ, .bool m.wR, .string m.us, .bool m.hu, .string m.pa, .bool m.hp, .bool m.pres, .int .i64 m.code, .slice ac m.cs.length cc, .bool m.dup, .int .i64 m.q, .bool m.re, .string m.top, .int .i64 m.id, .string m.pay, .slice aw m.ws.length cw, .slice af m.fs.length cf]) rfl ?_
  intro q1 W2 g5 s3 r4
  have := Nat.le_trans hb0.size g5
  have b6 := hb0.trans (s3.mono hb0.size)
  iterate 2 refine fw_pu rfl ?_
  refine fw_dt ?_
  refine fw_sq ?_
  refine fw_sq ?_
  refine fw_rg rfl ?_
  refine fw_ld r4 rfl rfl ?_
  refine fw_ca Tryd.func26 rfl rfl rfl (by have h := checkG m ac aw af _ _ _ cc cw cf W2 (hL.below b6) hF (hT.below b6); rw [if_neg (by rw [hm]; simp)] at h; exact h) ?_
  rintro _ V8 ⟨rfl, hb7⟩
  refine ⟨(.int .i64 1), rfl, ?_⟩
  have b9 := b6.trans (hb7.mono b6.size)
  have r10 := r4.below hb7
  refine fw_pu rfl ?_
  refine fw_dt ?_
  refine fw_cT rfl rfl ?_
  refine fw_sq ?_
  refine fw_rg rfl ?_
  iterate 2 refine fw_pu rfl ?_
  refine fw_dt ?_
  refine fw_rt ?_
  refine fw_tr ?_
  refine ⟨fun a h => ?_⟩
  exact ow_ret2 rfl h.df (h.g 2 rfl) (h.g 3 rfl) ⟨rfl, b9⟩
set_option maxRecDepth 100000 in
set_option maxHeartbeats 4000000 in
theorem bytesOk (m : Mq) (ac aw af : Option Addr) (nc nw nf cc cw cf : Nat) (w : World) (hL : m.Lists w (.slice ac nc cc) (.slice aw nw cw) (.slice af nf cf)) (hF : m.Far) (hT : Tabs w) (hm : mayG m = true) :
    Calls Tryd.prog 24 #[.agg (Mq.row m (.slice ac nc cc) (.slice aw nw cw) (.slice af nf cf)).toArray] w fun e w' => ∃ l a c, e = .returned (.tuple #[.slice a l.length c, .int .i64 0]) ∧ l = enG m ∧ l.length ≤ 70000 ∧ OB w' w.heap.size a c l ∧ Below w.heap.size w w' := by
  obtain rfl : nc = m.cs.length := by have := slR_len hL.c; simpa using this
  obtain rfl : nw = m.ws.length := by have := slR_len hL.w; simpa using this
  obtain rfl : nf = m.fs.length := by have := slR_len hL.f; simpa using this
  have hb0 := Below.refl w.heap.size w
  have hS := may_small hm
  have hS0 := hS.cl
  have hS1 := hS.wT
  have hS2 := hS.wP
  have hS3 := hS.us
  have hS4 := hS.pa
  have hS5 := hS.top
  have hS6 := hS.pay
  have hS7 := hS.wQ
  have hS8 := hS.q
  have hS9 := hS.k
  have hS10 := hS.cs
  have hS11 := hS.ws
  have hS12 := hS.fs
  refine fw_en 26 [(0, .agg (Mq.row m (.slice ac m.cs.length cc) (.slice aw m.ws.length cw) (.slice af m.fs.length cf)).toArray)] Tryd.func24 rfl Tryd.ntmps24 rfl ⟨rfl, trivial⟩ ?_
  refine fw_sq ?_
  refine fw_rg rfl ?_
  refine fw_bx rfl (cs := [.int .i64 m.k, .string m.cl, .bool m.clean, .int .i64 m.keep, .bool m.wI, .string m.wT, .string m.wP, .int .i64 m.wQ, .bool m.wR, .string m.us, .bool m.hu, .string m.pa, .bool m.hp, .bool m.pres, .int .i64 m.code, .slice ac m.cs.length cc, .bool m.dup, .int .i64 m.q, .bool m.re, .string m.top, .int .i64 m.id, .string m.pay, .slice aw m.ws.length cw, .slice af m.fs.length cf]) rfl ?_
  intro q1 W2 g5 s3 r4
  have := Nat.le_trans hb0.size g5
  have b6 := hb0.trans (s3.mono hb0.size)
  iterate 2 refine fw_pu rfl ?_
  refine fw_dt ?_
  refine fw_sq ?_
  refine fw_sq ?_
  refine fw_rg rfl ?_
  refine fw_ld r4 rfl rfl ?_
  refine fw_ca Tryd.func26 rfl rfl rfl (by have h := checkG m ac aw af _ _ _ cc cw cf W2 (hL.below b6) hF (hT.below b6); rw [if_pos hm] at h; exact h) ?_
  rintro _ V8 ⟨rfl, hb7⟩
  refine ⟨(.int .i64 0), rfl, ?_⟩
  have b9 := b6.trans (hb7.mono b6.size)
  have r10 := r4.below hb7
  refine fw_pu rfl ?_
  refine fw_dt ?_
  refine fw_cF rfl rfl ?_
  refine fw_sk ?_
  refine fw_th ?_
  refine fw_sq ?_
  refine fw_rg rfl ?_
  refine fw_ld r10 rfl rfl ?_
  refine fw_ca Tryd.func50 rfl rfl rfl (bodyOfG m ac aw af _ _ _ cc cw cf V8 (hL.below b9) hS) ?_
  rintro _ VC ⟨lC, aC, cC, rfl, hlC, hnC, hoC, hbC⟩
  refine ⟨_, rfl, ?_⟩
  replace hoC := own_mono hoC b9.size
  have b11 := b9.trans (hbC.mono b9.size)
  have r12 := r10.below hbC
  refine fw_pu rfl ?_
  refine fw_dt ?_
  refine fw_sq ?_
  refine fw_hr (fun X => Below w.heap.size w X ∧ RowAt X q1 (Mq.row m (.slice ac m.cs.length cc) (.slice aw m.ws.length cw) (.slice af m.fs.length cf))) (by kernel_rfl) 9 rfl ?_
  intro W13 s14
  have b15 := b11.trans (s14.mono b11.size)
  have r16 := r12.below s14
  have f17 := (below_own hoC s14)
  refine ⟨⟨b15, r16⟩, ?_⟩
  refine fw_tk 0 rfl rfl (by kernel_rfl) (fun _ _ _ _ _ h => h) ?_
  refine fw_tl 1 (fun _ h => h.2) rfl rfl rfl (by kernel_rfl) (fun _ _ _ _ _ h => h) ?_
  refine fw_tx 2 13 (.int .i64 (m.k * 16)) rfl rfl rfl rfl (fun a h W hW => by obtain ⟨b15, r16⟩ := hW; exact (run_binOp (h.ev rfl) (h.ev rfl) (by simp [go_sem]) (shl4 _ (by omega) (by omega) _))) (by kernel_rfl) (fun _ _ _ _ _ h => h) ?_
  refine fw_tl 3 (fun _ h => h.2) rfl rfl rfl (by kernel_rfl) (fun _ _ _ _ _ h => h) ?_
  refine fw_o1 4 (by kernel_rfl) ?_
  refine fw_oc rfl Tryd.func51 rfl rfl rfl ((flagsOfG m ac aw af _ _ _ cc cw cf W13 hS)) ?_
  rintro _ V19 ⟨rfl, hb18⟩
  refine ⟨(.int .i64 (flG m)), rfl, ?_⟩
  have b20 := b15.trans (hb18.mono b15.size)
  have r21 := r16.below hb18
  have f22 := (below_own f17 hb18)
  refine ⟨⟨b20, r21⟩, ?_⟩
  refine fw_tx 5 16 (.int .i64 (bits .or .i64 (m.k * 16) (flG m))) rfl rfl rfl rfl (fun a h W hW => by obtain ⟨b20, r21⟩ := hW; exact (run_binOp (h.ev rfl) (h.ev rfl) (by simp [go_sem]) (orI _ _ _))) (by kernel_rfl) (fun _ _ _ _ _ h => h) ?_
  refine fw_tx 6 17 (B8 (b8I (bits .or .i64 (m.k * 16) (flG m)))) rfl rfl rfl rfl (fun a h W hW => by obtain ⟨b20, r21⟩ := hW; exact (run_convOp (h.ev rfl) (cvI8 _ _))) (by kernel_rfl) (fun _ _ _ _ _ h => h) ?_
  refine fw_o1 7 (by kernel_rfl) ?_
  obtain ⟨B, hB⟩ : ∃ x, x = V19.heap.size := ⟨_, rfl⟩
  have hwB : w.heap.size ≤ B := by rw [hB]; exact b20.size
  have : q1 < B := by rw [hB]; exact r21.2.2
  have hloC : ∀ k, (Value.slice aC lC.length cC).ownBlock = some k → k < B := fun k hk => by rw [hB]; exact (blk_lt f22 hk).2
  refine fw_ot rfl 18 rfl rfl rfl (fun a h => opTo_bs1 rfl (h.ev rfl)) ?_
  rintro _ V23 ⟨l24, a24, c24, rfl, hl24, hbb24, ho24⟩
  have hBs : B ≤ V23.heap.size := by rw [hB]; exact hbb24.size
  rw [← hB] at ho24
  have b25 := b20.trans (hbb24.mono b20.size)
  have r26 := r21.below hbb24
  have f27 := (below_own f22 hbb24)
  have hn24 : l24.length ≤ 1 := by rw [hl24]; exact Nat.le_refl _
  refine ⟨⟨b25, r26⟩, ?_⟩
  refine fw_tk 8 rfl rfl (by kernel_rfl) (fun _ _ _ _ _ h => h) ?_
  refine fw_ht (by kernel_rfl) ?_
  refine fw_sq ?_
  refine fw_rg rfl ?_
  iterate 3 refine fw_pu rfl ?_
  refine fw_ca Tryd.func52 rfl rfl rfl (lenPut (l := l24) (ad := a24) (c := c24) lC.length (by omega) ho24 (by omega) hBs) ?_
  rintro _ V29 ⟨l28, a28, c28, rfl, hl28, hg28, ho28⟩
  refine ⟨_, rfl, ?_⟩
  have r30 := row_grew r26 hg28 (ob_off ho24 (by omega))
  have b31 := ob_low b25 ho24 hg28 hwB (Nat.le_trans hwB hBs)
  have hBs := Nat.le_trans hBs hg28.1.size
  have f32 := (ob_apart f27 hg28 ho24 hloC)
  have hn28 : l28.length ≤ 10 := by rw [hl28, List.length_append]; first | (have := lenG_len lC.length; omega) | omega
  refine fw_pu rfl ?_
  refine fw_dt ?_
  refine fw_sq ?_
  refine fw_rg rfl ?_
  iterate 2 refine fw_pu rfl ?_
  refine fw_to 25 rfl rfl rfl (fun a h => opTo_byt (l := l28) (ad := a28) (c := c28) _ _ rfl (h.ev rfl) ho28 (h.ev rfl) (Sl.of_own f32).1 (by omega) (by omega) hBs) ?_
  rintro _ V34 ⟨l33, a33, c33, rfl, hl33, hg33, ho33⟩
  have r35 := row_grew r30 hg33 (ob_off ho28 (by omega))
  have b36 := ob_low b31 ho28 hg33 hwB (Nat.le_trans hwB hBs)
  have hBs := Nat.le_trans hBs hg33.1.size
  have f37 := (ob_apart f32 hg33 ho28 hloC)
  have hn33 : l33.length ≤ 70000 := by rw [hl33, List.length_append]; first | (have := lenG_len lC.length; omega) | omega
  iterate 2 refine fw_pu rfl ?_
  refine fw_dt ?_
  refine fw_rt ?_
  refine ⟨fun a h => ?_⟩
  exact ow_ret2 rfl h.df (h.g 2 rfl) (h.g 3 rfl) ⟨_, _, _, rfl, by unfold enG; rw [hl33, hl28, hl24, hlC]; simp, hn33, own_mono ho33 hwB, b36⟩
/-- A flag is set. -/
def fG (x y : Int) : Bool := !(bits .and .i64 x y == 0)
/-- What a text is, and what is left behind it, as the program reads. -/
def rdS (l : List UInt8) : ByteArray := ⟨((l.drop 2).take (ofv (l.take 2)).toNat).toArray⟩
def rdR (l : List UInt8) : List UInt8 := (l.drop 2).drop (ofv (l.take 2)).toNat
theorem ofv_big2 (v : Int) (h0 : 0 ≤ v) (h1 : v < 65536) : ofv (bigv v 2) = v := by
  simp [bigv, ofv, byteAt_toNat]; omega
theorem take_big (v : Int) (r : List UInt8) (h0 : 0 ≤ v) (h1 : v < 65536) : ofv ((bigv v 2 ++ r).take 2) = v := by
  rw [List.take_append_of_le_length (by rw [bigv_length]; exact Nat.le_refl _), List.take_of_length_le (by rw [bigv_length]; exact Nat.le_refl _), ofv_big2 v h0 h1]
theorem drop_big (v : Int) (r : List UInt8) : (bigv v 2 ++ r).drop 2 = r := by
  have := List.drop_left' (l₁ := bigv v 2) (l₂ := r) (bigv_length v 2); exact this
theorem rdS_enc (s : ByteArray) (r : List UInt8) (h : s.size < 65536) : rdS (encS s ++ r) = s := by
  have e : encS s ++ r = bigv s.size 2 ++ (s.data.toList ++ r) := by unfold encS; rw [List.append_assoc]
  unfold rdS
  rw [e, take_big _ _ (by omega) (by omega), drop_big, Int.toNat_natCast, List.take_left' (by rw [Array.length_toList]; rfl)]
theorem rdR_enc (s : ByteArray) (r : List UInt8) (h : s.size < 65536) : rdR (encS s ++ r) = r := by
  have e : encS s ++ r = bigv s.size 2 ++ (s.data.toList ++ r) := by unfold encS; rw [List.append_assoc]
  unfold rdR
  rw [e, take_big _ _ (by omega) (by omega), drop_big, Int.toNat_natCast, List.drop_left' (by rw [Array.length_toList]; rfl)]
theorem ofv_one (x : UInt8) (r : List UInt8) : ofv ((x :: r).take 1) = (x.toNat : Int) := by simp [ofv]
/-- Elements of a list, at most so many. -/
def lsW : Nat → List UInt8 → List EWish
  | 0, _ => []
  | _ + 1, [] => []
  | n + 1, x :: t => ⟨rdS (x :: t), ofv ((rdR (x :: t)).take 1)⟩ :: lsW n ((rdR (x :: t)).drop 1)
def lsC : Nat → List UInt8 → List Int
  | 0, _ => []
  | _ + 1, [] => []
  | n + 1, x :: t => (x.toNat : Int) :: lsC n t
def lsF : Nat → List UInt8 → List ByteArray
  | 0, _ => []
  | _ + 1, [] => []
  | n + 1, x :: t => rdS (x :: t) :: lsF n (rdR (x :: t))
theorem lsW_ne (n : Nat) {l : List UInt8} (h : l ≠ []) : lsW (n + 1) l = ⟨rdS l, ofv ((rdR l).take 1)⟩ :: lsW n ((rdR l).drop 1) := by
  match l, h with
  | x :: t, _ => rfl
theorem lsC_ne (n : Nat) {l : List UInt8} (h : l ≠ []) : lsC (n + 1) l = ofv (l.take 1) :: lsC n (l.drop 1) := by
  match l, h with
  | x :: t, _ => rw [ofv_one]; rfl
theorem lsF_ne (n : Nat) {l : List UInt8} (h : l ≠ []) : lsF (n + 1) l = rdS l :: lsF n (rdR l) := by
  match l, h with
  | x :: t, _ => rfl
theorem enc_ne (s : ByteArray) (r : List UInt8) : encS s ++ r ≠ [] := by
  intro h; have := congrArg List.length h; rw [List.length_append, encS_len] at this; simp at this
theorem lsW_enc : ∀ (n : Nat) (L : List EWish), L.length ≤ n → (∀ x ∈ L, x.f.size < 65536 ∧ 0 ≤ x.q ∧ x.q ≤ 255) → lsW n (L.flatMap encW) = L
  | 0, L, h, _ => by rw [List.eq_nil_of_length_eq_zero (Nat.le_zero.1 h)]; rfl
  | n + 1, [], _, _ => rfl
  | n + 1, x :: t, h, hx => by
    obtain ⟨h1, h2, h3⟩ := hx x (List.mem_cons_self ..)
    have e : (x :: t).flatMap encW = encS x.f ++ (b8I x.q :: t.flatMap encW) := by simp [encW]
    rw [e, lsW_ne n (enc_ne _ _), rdS_enc _ _ h1, rdR_enc _ _ h1, ofv_one, b8I_nat, List.drop_one, List.tail_cons, lsW_enc n t (by simpa using h) (fun y hy => hx y (List.mem_cons_of_mem _ hy)), show x.q % 256 = x.q by omega]
theorem lsC_enc : ∀ (n : Nat) (L : List Int), L.length ≤ n → (∀ x ∈ L, 0 ≤ x ∧ x ≤ 255) → lsC n (L.map b8I) = L
  | 0, L, h, _ => by rw [List.eq_nil_of_length_eq_zero (Nat.le_zero.1 h)]; rfl
  | n + 1, [], _, _ => rfl
  | n + 1, x :: t, h, hx => by
    obtain ⟨h2, h3⟩ := hx x (List.mem_cons_self ..)
    show ((b8I x).toNat : Int) :: lsC n (t.map b8I) = _
    rw [b8I_nat, lsC_enc n t (by simpa using h) (fun y hy => hx y (List.mem_cons_of_mem _ hy)), show x % 256 = x by omega]
theorem lsF_enc : ∀ (n : Nat) (L : List ByteArray), L.length ≤ n → (∀ x ∈ L, x.size < 65536) → lsF n (L.flatMap encS) = L
  | 0, L, h, _ => by rw [List.eq_nil_of_length_eq_zero (Nat.le_zero.1 h)]; rfl
  | n + 1, [], _, _ => rfl
  | n + 1, x :: t, h, hx => by
    have h1 := hx x (List.mem_cons_self ..)
    rw [List.flatMap_cons, lsF_ne n (enc_ne _ _), rdS_enc _ _ h1, rdR_enc _ _ h1, lsF_enc n t (by simpa using h) (fun y hy => hx y (List.mem_cons_of_mem _ hy))]
/-- What is read of one who wants to be connected. -/
def cnD4 (f : Int) (m : Mq) (l : List UInt8) : Mq := if fG f 64 then { m with hp := true, pa := rdS l } else m
def cnD3 (f : Int) (m : Mq) (l : List UInt8) : Mq := if fG f 128 then cnD4 f { m with hu := true, us := rdS l } (rdR l) else cnD4 f m l
def cnD2 (f : Int) (m : Mq) (l : List UInt8) : Mq := if fG f 4 then cnD3 f { m with wI := true, wT := rdS l, wP := rdS (rdR l), wQ := f / 8 % 4, wR := fG f 32 } (rdR (rdR l)) else cnD3 f m l
def cnD1 (f : Int) (l : List UInt8) : Mq := cnD2 f { zM 1 with clean := fG f 2, keep := ofv (l.take 2), cl := rdS (l.drop 2) } (rdR (l.drop 2))
def mqS : ByteArray := { data := #[77, 81, 84, 84] }
def cnD (l : List UInt8) : Mq :=
  if (rdS l).toList == mqS.toList then (if ofv ((rdR l).take 1) == 4 then cnD1 (ofv (((rdR l).drop 1).take 1)) (((rdR l).drop 1).drop 1) else zM 0) else zM 0
/-- What is read of a message. -/
def pbD (f : Int) (l : List UInt8) : Mq :=
  if decide (0 < f / 2 % 4) then { zM 3 with dup := fG f 8, q := f / 2 % 4, re := fG f 1, top := rdS l, id := ofv ((rdR l).take 2), pay := ⟨((rdR l).drop 2).toArray⟩ }
  else { zM 3 with dup := fG f 8, q := f / 2 % 4, re := fG f 1, top := rdS l, pay := ⟨(rdR l).toArray⟩ }
/-- What is read of a packet's first byte and body. -/
def dcG (f : Int) (l : List UInt8) : Mq :=
  if f / 16 == 1 then cnD l else if f / 16 == 2 then { zM 2 with pres := ofv (l.take 1) == 1, code := ofv ((l.drop 1).take 1) } else if f / 16 == 3 then pbD f l
  else if (f / 16 == 4 || f / 16 == 5 || f / 16 == 6 || f / 16 == 7 || f / 16 == 11) then { zM (f / 16) with id := ofv (l.take 2) }
  else if f / 16 == 8 then { zM 8 with id := ofv (l.take 2), ws := lsW 9 (l.drop 2) } else if f / 16 == 9 then { zM 9 with id := ofv (l.take 2), cs := lsC 9 (l.drop 2) }
  else if f / 16 == 10 then { zM 10 with id := ofv (l.take 2), fs := lsF 9 (l.drop 2) } else zM (f / 16)
theorem cf_all : ∀ (c i r p u : Bool) (n : Fin 3), (fun x : Int => (decide (0 ≤ x ∧ x ≤ 255) && fG x 2 == c && fG x 4 == i && x / 8 % 4 == (n.val : Int) && fG x 32 == r && fG x 64 == p && fG x 128 == u)) (bits .or .i64 (bits .or .i64 (bits .or .i64 (bits .or .i64 (bits .or .i64 (flg c 2) (flg i 4)) ((n.val : Int) * 8)) (flg r 32)) (flg p 64)) (flg u 128)) = true := by decide +kernel
theorem cf_of (m : Mq) (hq : 0 ≤ m.wQ ∧ m.wQ ≤ 2) : (0 ≤ cfG m ∧ cfG m ≤ 255) ∧ fG (cfG m) 2 = m.clean ∧ fG (cfG m) 4 = m.wI ∧ cfG m / 8 % 4 = m.wQ ∧ fG (cfG m) 32 = m.wR ∧ fG (cfG m) 64 = m.hp ∧ fG (cfG m) 128 = m.hu := by
  have h := cf_all m.clean m.wI m.wR m.hp m.hu ⟨m.wQ.toNat, by omega⟩
  have e : ((⟨m.wQ.toNat, by omega⟩ : Fin 3).val : Int) = m.wQ := by simp; omega
  rw [e] at h
  simp only [Bool.and_eq_true, decide_eq_true_eq, beq_iff_eq] at h
  obtain ⟨⟨⟨⟨⟨⟨h1, h2⟩, h3⟩, h4⟩, h5⟩, h6⟩, h7⟩ := h
  exact ⟨h1, h2, h3, h4, h5, h6, h7⟩
theorem fl_all : ∀ (d r : Bool) (n : Fin 3), (fun x : Int => (decide (0 ≤ x ∧ x ≤ 15) && fG x 8 == d && x / 2 % 4 == (n.val : Int) && fG x 1 == r && b8I (bits .or .i64 48 x) == b8I (48 + x)) && fG (48 + x) 8 == d && (48 + x) / 2 % 4 == (n.val : Int) && fG (48 + x) 1 == r) (bits .or .i64 (bits .or .i64 (flg d 8) ((n.val : Int) * 2)) (flg r 1)) = true := by decide +kernel
theorem mq_enc : mqtt = encS mqS := by decide +kernel
theorem take_b1 (x : Int) (r : List UInt8) (h : 0 ≤ x ∧ x ≤ 255) : ofv ((b8I x :: r).take 1) = x := by rw [ofv_one, b8I_nat]; omega
theorem dc_1 {m : Mq} (hm : m = { zM 1 with cl := m.cl, clean := m.clean, keep := m.keep, wI := m.wI, wT := m.wT, wP := m.wP, wQ := m.wQ, wR := m.wR, us := m.us, hu := m.hu, pa := m.pa, hp := m.hp })
    (hk : 0 ≤ m.keep ∧ m.keep < 65536) (hq : 0 ≤ m.wQ ∧ m.wQ ≤ 2) (hs : m.cl.size < 65536 ∧ m.wT.size < 65536 ∧ m.wP.size < 65536 ∧ m.us.size < 65536 ∧ m.pa.size < 65536)
    (hw : m.wI = false → m.wT = E0 ∧ m.wP = E0 ∧ m.wQ = 0 ∧ m.wR = false) (hu : m.hu = false → m.us = E0) (hp : m.hp = false → m.pa = E0) : dcG 16 (bdG m) = m := by
  have hk1 : m.k = 1 := by rw [hm]; rfl
  obtain ⟨c1, c2, c3, c4, c5, c6, c7⟩ := cf_of m hq
  have e : bdG m = encS mqS ++ (4 :: b8I (cfG m) :: (bigv m.keep 2 ++ (encS m.cl ++ ((if m.wI then encS m.wT ++ encS m.wP else []) ++ ((if m.hu then encS m.us else []) ++ (if m.hp then encS m.pa else [])))))) := by
    unfold bdG cbG; rw [hk1, mq_enc]; simp
  have a1 : dcG 16 (bdG m) = cnD (bdG m) := rfl
  rw [a1, e]
  unfold cnD
  rw [rdS_enc _ _ (by decide +kernel), rdR_enc _ _ (by decide +kernel), beq_self_eq_true, if_pos rfl, ofv_one, if_pos (by decide), List.drop_one, List.tail_cons, take_b1 _ _ c1, List.drop_one, List.tail_cons]
  unfold cnD1
  rw [take_big _ _ hk.1 hk.2, drop_big, rdS_enc _ _ hs.1, rdR_enc _ _ hs.1]
  generalize hf : cfG m = f at *
  clear hf e a1 c1
  have end4 : ∀ n : Mq, (m.hp = false → n.hp = false ∧ n.pa = E0) → (cnD4 f n (if m.hp then encS m.pa else []) = { n with hp := m.hp, pa := m.pa }) := by
    intro n hn
    unfold cnD4
    rw [c6]
    cases h : m.hp with
    | true => have := rdS_enc m.pa [] hs.2.2.2.2; rw [List.append_nil] at this; simp [this]
    | false => obtain ⟨h1, h2⟩ := hn h; obtain ⟨k, cl, clean, keep, wI, wT, wP, wQ, wR, us, hu, pa, hp', pres, code, cs, dup, q, re, top, id, pay, ws, fs⟩ := n; simp at h1 h2; subst h1 h2; simp [hp h]
  have end3 : ∀ n : Mq, (n.hp = false ∧ n.pa = E0) → (n.hu = false ∧ n.us = E0) → cnD3 f n ((if m.hu then encS m.us else []) ++ (if m.hp then encS m.pa else [])) = { n with hu := m.hu, us := m.us, hp := m.hp, pa := m.pa } := by
    intro n hn hn2
    unfold cnD3
    rw [c7]
    cases h : m.hu with
    | true => rw [if_pos rfl, if_pos rfl, rdS_enc _ _ hs.2.2.2.1, rdR_enc _ _ hs.2.2.2.1]; exact (end4 { n with hu := true, us := m.us } (fun _ => hn))
    | false => rw [if_neg (by simp), if_neg (by simp), List.nil_append, end4 _ (fun _ => hn)]; obtain ⟨k, cl, clean, keep, wI, wT, wP, wQ, wR, us, hu', pa, hp', pres, code, cs, dup, q, re, top, id, pay, ws, fs⟩ := n; obtain ⟨h1, h2⟩ := hn2; simp at h1 h2; subst h1 h2; simp [hu h]
  unfold cnD2
  rw [c3]
  cases h : m.wI with
  | true =>
    rw [if_pos rfl, if_pos rfl, List.append_assoc, rdS_enc _ _ hs.2.1, rdR_enc _ _ hs.2.1, rdS_enc _ _ hs.2.2.1, rdR_enc _ _ hs.2.2.1, end3 _ ⟨rfl, rfl⟩ ⟨rfl, rfl⟩, c2, c4, c5]
    rw [hm]; simp [zM, h]
  | false =>
    obtain ⟨w1, w2, w3, w4⟩ := hw h
    rw [if_neg (by simp), if_neg (by simp), List.nil_append, end3 _ ⟨rfl, rfl⟩ ⟨rfl, rfl⟩, c2]
    rw [hm]; simp [zM, h, w1, w2, w3, w4]
theorem dc_2 {m : Mq} (hm : m = { zM 2 with pres := m.pres, code := m.code }) (hc : 0 ≤ m.code ∧ m.code ≤ 255) : dcG 32 (bdG m) = m := by
  have hk1 : m.k = 2 := by rw [hm]; rfl
  have e : bdG m = [b8I (flg m.pres 1), b8I m.code] := by unfold bdG; rw [hk1]; rfl
  have a1 : dcG 32 (bdG m) = { zM 2 with pres := ofv ((bdG m).take 1) == 1, code := ofv (((bdG m).drop 1).take 1) } := rfl
  rw [a1, e, take_b1 _ _ (by unfold flg; split <;> omega), List.drop_one, List.tail_cons, take_b1 _ _ hc, show (flg m.pres 1 == 1) = m.pres by unfold flg; cases m.pres <;> rfl]
  exact hm.symm
theorem fl_of (m : Mq) (hk : m.k = 3) (hq : 0 ≤ m.q ∧ m.q ≤ 2) : ∃ x, flG m = x ∧ (0 ≤ x ∧ x ≤ 15) ∧ b8I (bits .or .i64 48 x) = b8I (48 + x) ∧ fG (48 + x) 8 = m.dup ∧ (48 + x) / 2 % 4 = m.q ∧ fG (48 + x) 1 = m.re := by
  have h := fl_all m.dup m.re ⟨m.q.toNat, by omega⟩
  have e : ((⟨m.q.toNat, by omega⟩ : Fin 3).val : Int) = m.q := by simp; omega
  rw [e] at h
  simp only [Bool.and_eq_true, decide_eq_true_eq, beq_iff_eq] at h
  obtain ⟨⟨⟨⟨⟨⟨⟨h1, h2⟩, h3⟩, h4⟩, h5⟩, h6⟩, h7⟩, h8⟩ := h
  refine ⟨_, by unfold flG; rw [hk]; rfl, h1, h5, h6, h7, h8⟩
theorem ba_back (s : ByteArray) : (⟨s.data.toList.toArray⟩ : ByteArray) = s := by simp
theorem dc_3 {m : Mq} (hm : m = { zM 3 with top := m.top, q := m.q, re := m.re, pay := m.pay, dup := m.dup, id := m.id }) (f : Int) (hf : f / 16 = 3) (h1 : fG f 8 = m.dup) (h2 : f / 2 % 4 = m.q) (h3 : fG f 1 = m.re) (_hq : 0 ≤ m.q) (hs : m.top.size < 65536) (hi : 0 ≤ m.id ∧ m.id < 65536) (h0 : m.q = 0 → m.id = 0) : dcG f (bdG m) = m := by
  have hk1 : m.k = 3 := by rw [hm]; rfl
  have e : bdG m = encS m.top ++ ((if decide (0 < m.q) then bigv m.id 2 else []) ++ m.pay.data.toList) := by unfold bdG; rw [hk1]; simp
  have a1 : dcG f (bdG m) = pbD f (bdG m) := by unfold dcG; rw [hf]; rfl
  rw [a1, e]
  unfold pbD
  rw [rdS_enc _ _ hs, rdR_enc _ _ hs, h1, h2, h3]
  by_cases h : 0 < m.q
  · rw [decide_eq_true h, if_pos rfl, if_pos rfl, take_big _ _ hi.1 hi.2, drop_big, ba_back]; exact hm.symm
  · rw [decide_eq_false h, if_neg (by simp), if_neg (by simp), List.nil_append, ba_back]
    have h4 : m.q = 0 := by omega
    rw [hm]; simp [zM, h0 h4]
theorem dc_id {m : Mq} {k : Int} (f : Int) (hf : f / 16 = k) (hk : k = 4 ∨ k = 5 ∨ k = 6 ∨ k = 7 ∨ k = 11) (hm : m = { zM k with id := m.id }) (hi : 0 ≤ m.id ∧ m.id < 65536) : dcG f (bdG m) = m := by
  have hk1 : m.k = k := by rw [hm]; rfl
  have e : bdG m = bigv m.id 2 ++ [] := by
    unfold bdG; rw [hk1, hm]
    rcases hk with rfl | rfl | rfl | rfl | rfl <;> simp [zM]
  have a1 : dcG f (bdG m) = { zM k with id := ofv ((bdG m).take 2) } := by
    unfold dcG; rw [hf]
    rcases hk with rfl | rfl | rfl | rfl | rfl <;> rfl
  rw [a1, e, take_big _ _ hi.1 hi.2]; exact hm.symm
theorem dc_8 {m : Mq} (hm : m = { zM 8 with id := m.id, ws := m.ws }) (hi : 0 ≤ m.id ∧ m.id < 65536) (hl : m.ws.length ≤ 9) (hx : ∀ x ∈ m.ws, x.f.size < 65536 ∧ 0 ≤ x.q ∧ x.q ≤ 255) : dcG 130 (bdG m) = m := by
  have hk1 : m.k = 8 := by rw [hm]; rfl
  have e : bdG m = bigv m.id 2 ++ m.ws.flatMap encW := by unfold bdG; rw [hk1, hm]; simp [zM]
  have a1 : dcG 130 (bdG m) = { zM 8 with id := ofv ((bdG m).take 2), ws := lsW 9 ((bdG m).drop 2) } := rfl
  rw [a1, e, take_big _ _ hi.1 hi.2, drop_big, lsW_enc 9 _ hl hx]; exact hm.symm
theorem dc_9 {m : Mq} (hm : m = { zM 9 with id := m.id, cs := m.cs }) (hi : 0 ≤ m.id ∧ m.id < 65536) (hl : m.cs.length ≤ 9) (hx : ∀ x ∈ m.cs, 0 ≤ x ∧ x ≤ 255) : dcG 144 (bdG m) = m := by
  have hk1 : m.k = 9 := by rw [hm]; rfl
  have e : bdG m = bigv m.id 2 ++ m.cs.map b8I := by unfold bdG; rw [hk1, hm]; simp [zM]
  have a1 : dcG 144 (bdG m) = { zM 9 with id := ofv ((bdG m).take 2), cs := lsC 9 ((bdG m).drop 2) } := rfl
  rw [a1, e, take_big _ _ hi.1 hi.2, drop_big, lsC_enc 9 _ hl hx]; exact hm.symm
theorem dc_10 {m : Mq} (hm : m = { zM 10 with id := m.id, fs := m.fs }) (hi : 0 ≤ m.id ∧ m.id < 65536) (hl : m.fs.length ≤ 9) (hx : ∀ x ∈ m.fs, x.size < 65536) : dcG 162 (bdG m) = m := by
  have hk1 : m.k = 10 := by rw [hm]; rfl
  have e : bdG m = bigv m.id 2 ++ m.fs.flatMap encS := by unfold bdG; rw [hk1, hm]; simp [zM]
  have a1 : dcG 162 (bdG m) = { zM 10 with id := ofv ((bdG m).take 2), fs := lsF 9 ((bdG m).drop 2) } := rfl
  rw [a1, e, take_big _ _ hi.1 hi.2, drop_big, lsF_enc 9 _ hl hx]; exact hm.symm
/-- What the page's reader takes; what is left; whether it went beyond. -/
def tkP (n : Nat) (l : List UInt8) : List UInt8 := if n ≤ l.length then l.take n else List.replicate n 0
def tkR (n : Nat) (l : List UInt8) : List UInt8 := if n ≤ l.length then l.drop n else []
def tX (n : Nat) (b : Bool) (l : List UInt8) : Bool := b || decide (l.length < n)
def rS (l : List UInt8) : ByteArray := ⟨(tkP (ofv (tkP 2 l)).toNat (tkR 2 l)).toArray⟩
def rR (l : List UInt8) : List UInt8 := tkR (ofv (tkP 2 l)).toNat (tkR 2 l)
def rX (b : Bool) (l : List UInt8) : Bool := tX (ofv (tkP 2 l)).toNat (tX 2 b l) (tkR 2 l)
theorem tkP_app {n : Nat} {a : List UInt8} (r : List UInt8) (h : a.length = n) : tkP n (a ++ r) = a := by
  unfold tkP; rw [if_pos (by rw [List.length_append]; omega), List.take_left' h]
theorem tkR_app {n : Nat} {a : List UInt8} (r : List UInt8) (h : a.length = n) : tkR n (a ++ r) = r := by
  unfold tkR; rw [if_pos (by rw [List.length_append]; omega), List.drop_left' h]
theorem tX_app {n : Nat} {a : List UInt8} (b : Bool) (r : List UInt8) (h : a.length = n) : tX n b (a ++ r) = b := by
  unfold tX; rw [decide_eq_false (by rw [List.length_append]; omega), Bool.or_false]
theorem str_n (s : ByteArray) : s.data.toList.length = ((s.size : Nat) : Int).toNat := by rw [Array.length_toList]; rfl
section
variable (s : ByteArray) (r : List UInt8) (h : s.size < 65536)
include h
theorem renc_num : ofv (tkP 2 (encS s ++ r)) = s.size ∧ tkR 2 (encS s ++ r) = s.data.toList ++ r := by
  have e : encS s ++ r = bigv s.size 2 ++ (s.data.toList ++ r) := by unfold encS; rw [List.append_assoc]
  rw [e, tkP_app _ (bigv_length _ _), tkR_app _ (bigv_length _ _), ofv_big2 _ (by omega) (by omega)]
  exact ⟨rfl, rfl⟩
theorem rS_enc : rS (encS s ++ r) = s := by
  obtain ⟨h1, h2⟩ := renc_num s r h
  unfold rS
  rw [h1, h2, tkP_app _ (str_n s)]
theorem rR_enc : rR (encS s ++ r) = r := by
  obtain ⟨h1, h2⟩ := renc_num s r h
  unfold rR
  rw [h1, h2, tkR_app _ (str_n s)]
theorem rX_enc (b : Bool) : rX b (encS s ++ r) = b := by
  obtain ⟨h1, h2⟩ := renc_num s r h
  unfold rX
  rw [h1, h2, tX_app _ _ (str_n s)]
  unfold tX
  rw [decide_eq_false (by rw [List.length_append, encS_len]; omega), Bool.or_false]
end
def rlW : Nat → List UInt8 → Bool → List EWish × Bool
  | 0, _, b => ([], b)
  | _ + 1, [], b => ([], b)
  | n + 1, x :: t, b => (⟨rS (x :: t), ofv (tkP 1 (rR (x :: t)))⟩ :: (rlW n (tkR 1 (rR (x :: t))) (tX 1 (rX b (x :: t)) (rR (x :: t)))).1, (rlW n (tkR 1 (rR (x :: t))) (tX 1 (rX b (x :: t)) (rR (x :: t)))).2)
def rlC : Nat → List UInt8 → Bool → List Int × Bool
  | 0, _, b => ([], b)
  | _ + 1, [], b => ([], b)
  | n + 1, x :: t, b => (ofv (tkP 1 (x :: t)) :: (rlC n (tkR 1 (x :: t)) (tX 1 b (x :: t))).1, (rlC n (tkR 1 (x :: t)) (tX 1 b (x :: t))).2)
def rlF : Nat → List UInt8 → Bool → List ByteArray × Bool
  | 0, _, b => ([], b)
  | _ + 1, [], b => ([], b)
  | n + 1, x :: t, b => (rS (x :: t) :: (rlF n (rR (x :: t)) (rX b (x :: t))).1, (rlF n (rR (x :: t)) (rX b (x :: t))).2)
theorem rlW_ne (n : Nat) (b : Bool) {l : List UInt8} (h : l ≠ []) : rlW (n + 1) l b = (⟨rS l, ofv (tkP 1 (rR l))⟩ :: (rlW n (tkR 1 (rR l)) (tX 1 (rX b l) (rR l))).1, (rlW n (tkR 1 (rR l)) (tX 1 (rX b l) (rR l))).2) := by
  match l, h with
  | x :: t, _ => rfl
theorem rlC_ne (n : Nat) (b : Bool) {l : List UInt8} (h : l ≠ []) : rlC (n + 1) l b = (ofv (tkP 1 l) :: (rlC n (tkR 1 l) (tX 1 b l)).1, (rlC n (tkR 1 l) (tX 1 b l)).2) := by
  match l, h with
  | x :: t, _ => rfl
theorem rlF_ne (n : Nat) (b : Bool) {l : List UInt8} (h : l ≠ []) : rlF (n + 1) l b = (rS l :: (rlF n (rR l) (rX b l)).1, (rlF n (rR l) (rX b l)).2) := by
  match l, h with
  | x :: t, _ => rfl
theorem tkP1 (x : UInt8) (r : List UInt8) : tkP 1 (x :: r) = [x] := tkP_app (a := [x]) r rfl
theorem tkR1 (x : UInt8) (r : List UInt8) : tkR 1 (x :: r) = r := tkR_app (a := [x]) r rfl
theorem tX1 (b : Bool) (x : UInt8) (r : List UInt8) : tX 1 b (x :: r) = b := tX_app (a := [x]) b r rfl
theorem ofv_b (x : Int) (h : 0 ≤ x ∧ x ≤ 255) : ofv [b8I x] = x := by have := take_b1 x [] h; simpa using this
theorem rlW_enc (b : Bool) : ∀ (n : Nat) (L : List EWish), L.length ≤ n → (∀ x ∈ L, x.f.size < 65536 ∧ 0 ≤ x.q ∧ x.q ≤ 255) → rlW n (L.flatMap encW) b = (L, b)
  | 0, L, h, _ => by rw [List.eq_nil_of_length_eq_zero (Nat.le_zero.1 h)]; rfl
  | n + 1, [], _, _ => rfl
  | n + 1, x :: t, h, hx => by
    obtain ⟨h1, h2⟩ := hx x (List.mem_cons_self ..)
    have e : (x :: t).flatMap encW = encS x.f ++ (b8I x.q :: t.flatMap encW) := by simp [encW]
    rw [e, rlW_ne n b (enc_ne _ _), rS_enc _ _ h1, rR_enc _ _ h1, rX_enc _ _ h1, tkP1, tkR1, tX1, ofv_b _ h2, rlW_enc b n t (by simpa using h) (fun y hy => hx y (List.mem_cons_of_mem _ hy))]
theorem rlC_enc (b : Bool) : ∀ (n : Nat) (L : List Int), L.length ≤ n → (∀ x ∈ L, 0 ≤ x ∧ x ≤ 255) → rlC n (L.map b8I) b = (L, b)
  | 0, L, h, _ => by rw [List.eq_nil_of_length_eq_zero (Nat.le_zero.1 h)]; rfl
  | n + 1, [], _, _ => rfl
  | n + 1, x :: t, h, hx => by
    have h2 := hx x (List.mem_cons_self ..)
    rw [List.map_cons, rlC_ne n b (by simp), tkP1, tkR1, tX1, ofv_b _ h2, rlC_enc b n t (by simpa using h) (fun y hy => hx y (List.mem_cons_of_mem _ hy))]
theorem rlF_enc (b : Bool) : ∀ (n : Nat) (L : List ByteArray), L.length ≤ n → (∀ x ∈ L, x.size < 65536) → rlF n (L.flatMap encS) b = (L, b)
  | 0, L, h, _ => by rw [List.eq_nil_of_length_eq_zero (Nat.le_zero.1 h)]; rfl
  | n + 1, [], _, _ => rfl
  | n + 1, x :: t, h, hx => by
    have h1 := hx x (List.mem_cons_self ..)
    rw [List.flatMap_cons, rlF_ne n b (enc_ne _ _), rS_enc _ _ h1, rR_enc _ _ h1, rX_enc _ _ h1, rlF_enc b n t (by simpa using h) (fun y hy => hx y (List.mem_cons_of_mem _ hy))]
/-- What the page reads of one who wants to be connected. -/
def rc4 (f : Int) (m : Mq) (l : List UInt8) (b : Bool) : Mq × Bool := if fG f 64 then ({ m with pa := rS l }, rX b l) else (m, b)
def rc3 (f : Int) (m : Mq) (l : List UInt8) (b : Bool) : Mq × Bool := if fG f 128 then rc4 f { m with us := rS l } (rR l) (rX b l) else rc4 f m l b
def rc2 (f : Int) (m : Mq) (l : List UInt8) (b : Bool) : Mq × Bool := if fG f 4 then rc3 f { m with wI := true, wT := rS l, wP := rS (rR l), wQ := f / 8 % 4, wR := fG f 32 } (rR (rR l)) (rX (rX b l) (rR l)) else rc3 f m l b
def rc1 (f : Int) (l : List UInt8) (b : Bool) : Mq × Bool := rc2 f { zM 1 with keep := ofv (tkP 2 l), clean := fG f 2, hp := fG f 64, hu := fG f 128, cl := rS (tkR 2 l) } (rR (tkR 2 l)) (rX (tX 2 b l) (tkR 2 l))
def rcn (l : List UInt8) : Mq × Bool := rc1 (ofv (tkP 1 (tkR 7 l))) (tkR 1 (tkR 7 l)) (tX 1 (tX 7 false l) (tkR 7 l))
def rpb (f : Int) (l : List UInt8) : Mq × Bool :=
  if decide (0 < f / 2 % 4) then ({ zM 3 with dup := fG f 8, q := f / 2 % 4, re := fG f 1, top := rS l, id := ofv (tkP 2 (rR l)), pay := ⟨(tkR 2 (rR l)).toArray⟩ }, tX 2 (rX false l) (rR l))
  else ({ zM 3 with dup := fG f 8, q := f / 2 % 4, re := fG f 1, top := rS l, pay := ⟨(rR l).toArray⟩ }, rX false l)
/-- What the page reads of a packet's first byte and body, and whether it went beyond. -/
def rcG (f : Int) (l : List UInt8) : Mq × Bool :=
  if f / 16 == 1 then rcn l else if f / 16 == 2 then ({ zM 2 with pres := ofv ((tkP 2 l).take 1) == 1, code := ofv ((tkP 2 l).drop 1) }, tX 2 false l) else if f / 16 == 3 then rpb f l
  else if (f / 16 == 12 || f / 16 == 13 || f / 16 == 14) then (zM (f / 16), false)
  else if f / 16 == 8 then ({ zM 8 with id := ofv (tkP 2 l), ws := (rlW 8 (tkR 2 l) (tX 2 false l)).1 }, (rlW 8 (tkR 2 l) (tX 2 false l)).2)
  else if f / 16 == 9 then ({ zM 9 with id := ofv (tkP 2 l), cs := (rlC 8 (tkR 2 l) (tX 2 false l)).1 }, (rlC 8 (tkR 2 l) (tX 2 false l)).2)
  else if f / 16 == 10 then ({ zM 10 with id := ofv (tkP 2 l), fs := (rlF 8 (tkR 2 l) (tX 2 false l)).1 }, (rlF 8 (tkR 2 l) (tX 2 false l)).2)
  else ({ zM (f / 16) with id := ofv (tkP 2 l) }, tX 2 false l)
theorem big_app (n : Int) (r : List UInt8) (h0 : 0 ≤ n) (h1 : n < 65536) (b : Bool) : ofv (tkP 2 (bigv n 2 ++ r)) = n ∧ tkR 2 (bigv n 2 ++ r) = r ∧ tX 2 b (bigv n 2 ++ r) = b :=
  ⟨by rw [tkP_app _ (bigv_length _ _), ofv_big2 _ h0 h1], tkR_app _ (bigv_length _ _), tX_app _ _ (bigv_length _ _)⟩
theorem rc_1 {m : Mq} (hm : m = { zM 1 with cl := m.cl, clean := m.clean, keep := m.keep, wI := m.wI, wT := m.wT, wP := m.wP, wQ := m.wQ, wR := m.wR, us := m.us, hu := m.hu, pa := m.pa, hp := m.hp })
    (hk : 0 ≤ m.keep ∧ m.keep < 65536) (hq : 0 ≤ m.wQ ∧ m.wQ ≤ 2) (hs : m.cl.size < 65536 ∧ m.wT.size < 65536 ∧ m.wP.size < 65536 ∧ m.us.size < 65536 ∧ m.pa.size < 65536)
    (hw : m.wI = false → m.wT = E0 ∧ m.wP = E0 ∧ m.wQ = 0 ∧ m.wR = false) (hu : m.hu = false → m.us = E0) (hp : m.hp = false → m.pa = E0) : rcG 16 (bdG m) = (m, false) := by
  have hk1 : m.k = 1 := by rw [hm]; rfl
  obtain ⟨c1, c2, c3, c4, c5, c6, c7⟩ := cf_of m hq
  have e : bdG m = (mqtt ++ [4]) ++ (b8I (cfG m) :: (bigv m.keep 2 ++ (encS m.cl ++ ((if m.wI then encS m.wT ++ encS m.wP else []) ++ ((if m.hu then encS m.us else []) ++ (if m.hp then encS m.pa else [])))))) := by
    unfold bdG cbG; rw [hk1]; simp
  have a1 : rcG 16 (bdG m) = rcn (bdG m) := rfl
  rw [a1, e]
  unfold rcn
  rw [tkR_app (n := 7) (a := mqtt ++ [4]) _ rfl, tX_app (n := 7) (a := mqtt ++ [4]) _ _ rfl, tkP1, tkR1, tX1, ofv_b _ c1]
  unfold rc1
  obtain ⟨d1, d2, d3⟩ := big_app m.keep (encS m.cl ++ ((if m.wI then encS m.wT ++ encS m.wP else []) ++ ((if m.hu then encS m.us else []) ++ (if m.hp then encS m.pa else [])))) hk.1 hk.2 false
  rw [d1, d2, d3, rS_enc _ _ hs.1, rR_enc _ _ hs.1, rX_enc _ _ hs.1]
  generalize hf : cfG m = f at *
  clear hf e a1 c1 d1 d2 d3
  have end4 : ∀ n : Mq, n.pa = E0 → (rc4 f n (if m.hp then encS m.pa else []) false = ({ n with pa := m.pa }, false)) := by
    intro n hn
    unfold rc4
    rw [c6]
    cases h : m.hp with
    | true => have h1 := rS_enc m.pa [] hs.2.2.2.2; have h2 := rX_enc m.pa [] hs.2.2.2.2 false; rw [List.append_nil] at h1 h2; simp [h1, h2]
    | false => obtain ⟨k, cl, clean, keep, wI, wT, wP, wQ, wR, us, hu, pa, hp', pres, code, cs, dup, q, re, top, id, pay, ws, fs⟩ := n; simp at hn; subst hn; simp [hp h]
  have end3 : ∀ n : Mq, n.pa = E0 → n.us = E0 → rc3 f n ((if m.hu then encS m.us else []) ++ (if m.hp then encS m.pa else [])) false = ({ n with us := m.us, pa := m.pa }, false) := by
    intro n hn hn2
    unfold rc3
    rw [c7]
    cases h : m.hu with
    | true => rw [if_pos rfl, if_pos rfl, rS_enc _ _ hs.2.2.2.1, rR_enc _ _ hs.2.2.2.1, rX_enc _ _ hs.2.2.2.1]; exact (end4 { n with us := m.us } hn)
    | false => rw [if_neg (by simp), if_neg (by simp), List.nil_append, end4 _ hn]; obtain ⟨k, cl, clean, keep, wI, wT, wP, wQ, wR, us, hu', pa, hp', pres, code, cs, dup, q, re, top, id, pay, ws, fs⟩ := n; simp at hn2; subst hn2; simp [hu h]
  unfold rc2
  rw [c3]
  cases h : m.wI with
  | true =>
    rw [if_pos rfl, if_pos rfl, List.append_assoc, rS_enc _ _ hs.2.1, rR_enc _ _ hs.2.1, rX_enc _ _ hs.2.1, rS_enc _ _ hs.2.2.1, rR_enc _ _ hs.2.2.1, rX_enc _ _ hs.2.2.1, end3 _ rfl rfl, c2, c4, c5, c6, c7]
    rw [hm]; simp [zM, h]
  | false =>
    obtain ⟨w1, w2, w3, w4⟩ := hw h
    rw [if_neg (by simp), if_neg (by simp), List.nil_append, end3 _ rfl rfl, c2, c6, c7]
    rw [hm]; simp [zM, h, w1, w2, w3, w4]
theorem rc_2 {m : Mq} (hm : m = { zM 2 with pres := m.pres, code := m.code }) (hc : 0 ≤ m.code ∧ m.code ≤ 255) : rcG 32 (bdG m) = (m, false) := by
  have hk1 : m.k = 2 := by rw [hm]; rfl
  have e : bdG m = [b8I (flg m.pres 1), b8I m.code] ++ [] := by unfold bdG; rw [hk1]; rfl
  have a1 : rcG 32 (bdG m) = ({ zM 2 with pres := ofv ((tkP 2 (bdG m)).take 1) == 1, code := ofv ((tkP 2 (bdG m)).drop 1) }, tX 2 false (bdG m)) := rfl
  rw [a1, e, tkP_app (n := 2) (a := [b8I (flg m.pres 1), b8I m.code]) _ rfl, tX_app (n := 2) (a := [b8I (flg m.pres 1), b8I m.code]) _ _ rfl, take_b1 _ _ (by unfold flg; split <;> omega), List.drop_one, List.tail_cons, ofv_b _ hc, show (flg m.pres 1 == 1) = m.pres by unfold flg; cases m.pres <;> rfl]
  rw [← hm]
theorem rc_3 {m : Mq} (hm : m = { zM 3 with top := m.top, q := m.q, re := m.re, pay := m.pay, dup := m.dup, id := m.id }) (f : Int) (hf : f / 16 = 3) (h1 : fG f 8 = m.dup) (h2 : f / 2 % 4 = m.q) (h3 : fG f 1 = m.re) (_hq : 0 ≤ m.q) (hs : m.top.size < 65536) (hi : 0 ≤ m.id ∧ m.id < 65536) (h0 : m.q = 0 → m.id = 0) : rcG f (bdG m) = (m, false) := by
  have hk1 : m.k = 3 := by rw [hm]; rfl
  have e : bdG m = encS m.top ++ ((if decide (0 < m.q) then bigv m.id 2 else []) ++ m.pay.data.toList) := by unfold bdG; rw [hk1]; simp
  have a1 : rcG f (bdG m) = rpb f (bdG m) := by unfold rcG; rw [hf]; rfl
  rw [a1, e]
  unfold rpb
  rw [rS_enc _ _ hs, rR_enc _ _ hs, rX_enc _ _ hs, h1, h2, h3]
  by_cases h : 0 < m.q
  · obtain ⟨d1, d2, d3⟩ := big_app m.id m.pay.data.toList hi.1 hi.2 false
    rw [decide_eq_true h, if_pos rfl, if_pos rfl, d1, d2, d3, ba_back, ← hm]
  · rw [decide_eq_false h, if_neg (by simp), if_neg (by simp), List.nil_append, ba_back]
    have h4 : m.q = 0 := by omega
    rw [hm]; simp [zM, h0 h4]
theorem rc_id {m : Mq} {k : Int} (f : Int) (hf : f / 16 = k) (hk : k = 4 ∨ k = 5 ∨ k = 6 ∨ k = 7 ∨ k = 11) (hm : m = { zM k with id := m.id }) (hi : 0 ≤ m.id ∧ m.id < 65536) : rcG f (bdG m) = (m, false) := by
  have hk1 : m.k = k := by rw [hm]; rfl
  have e : bdG m = bigv m.id 2 ++ [] := by
    unfold bdG; rw [hk1, hm]
    rcases hk with rfl | rfl | rfl | rfl | rfl <;> simp [zM]
  have a1 : rcG f (bdG m) = ({ zM k with id := ofv (tkP 2 (bdG m)) }, tX 2 false (bdG m)) := by
    unfold rcG; rw [hf]
    rcases hk with rfl | rfl | rfl | rfl | rfl <;> rfl
  obtain ⟨d1, -, d3⟩ := big_app m.id [] hi.1 hi.2 false
  rw [a1, e, d1, d3, ← hm]
theorem rc_8 {m : Mq} (hm : m = { zM 8 with id := m.id, ws := m.ws }) (hi : 0 ≤ m.id ∧ m.id < 65536) (hl : m.ws.length ≤ 8) (hx : ∀ x ∈ m.ws, x.f.size < 65536 ∧ 0 ≤ x.q ∧ x.q ≤ 255) : rcG 130 (bdG m) = (m, false) := by
  have hk1 : m.k = 8 := by rw [hm]; rfl
  have e : bdG m = bigv m.id 2 ++ m.ws.flatMap encW := by unfold bdG; rw [hk1, hm]; simp [zM]
  have a1 : rcG 130 (bdG m) = ({ zM 8 with id := ofv (tkP 2 (bdG m)), ws := (rlW 8 (tkR 2 (bdG m)) (tX 2 false (bdG m))).1 }, (rlW 8 (tkR 2 (bdG m)) (tX 2 false (bdG m))).2) := rfl
  obtain ⟨d1, d2, d3⟩ := big_app m.id (m.ws.flatMap encW) hi.1 hi.2 false
  rw [a1, e, d1, d2, d3, rlW_enc _ 8 _ hl hx, ← hm]
theorem rc_9 {m : Mq} (hm : m = { zM 9 with id := m.id, cs := m.cs }) (hi : 0 ≤ m.id ∧ m.id < 65536) (hl : m.cs.length ≤ 8) (hx : ∀ x ∈ m.cs, 0 ≤ x ∧ x ≤ 255) : rcG 144 (bdG m) = (m, false) := by
  have hk1 : m.k = 9 := by rw [hm]; rfl
  have e : bdG m = bigv m.id 2 ++ m.cs.map b8I := by unfold bdG; rw [hk1, hm]; simp [zM]
  have a1 : rcG 144 (bdG m) = ({ zM 9 with id := ofv (tkP 2 (bdG m)), cs := (rlC 8 (tkR 2 (bdG m)) (tX 2 false (bdG m))).1 }, (rlC 8 (tkR 2 (bdG m)) (tX 2 false (bdG m))).2) := rfl
  obtain ⟨d1, d2, d3⟩ := big_app m.id (m.cs.map b8I) hi.1 hi.2 false
  rw [a1, e, d1, d2, d3, rlC_enc _ 8 _ hl hx, ← hm]
theorem rc_10 {m : Mq} (hm : m = { zM 10 with id := m.id, fs := m.fs }) (hi : 0 ≤ m.id ∧ m.id < 65536) (hl : m.fs.length ≤ 8) (hx : ∀ x ∈ m.fs, x.size < 65536) : rcG 162 (bdG m) = (m, false) := by
  have hk1 : m.k = 10 := by rw [hm]; rfl
  have e : bdG m = bigv m.id 2 ++ m.fs.flatMap encS := by unfold bdG; rw [hk1, hm]; simp [zM]
  have a1 : rcG 162 (bdG m) = ({ zM 10 with id := ofv (tkP 2 (bdG m)), fs := (rlF 8 (tkR 2 (bdG m)) (tX 2 false (bdG m))).1 }, (rlF 8 (tkR 2 (bdG m)) (tX 2 false (bdG m))).2) := rfl
  obtain ⟨d1, d2, d3⟩ := big_app m.id (m.fs.flatMap encS) hi.1 hi.2 false
  rw [a1, e, d1, d2, d3, rlF_enc _ 8 _ hl hx, ← hm]
theorem b8_lit (k : Int) (h : 0 ≤ k ∧ k ≤ 255) : ((b8I k).toNat : Int) = k := by rw [b8I_nat]; omega
/-- A packet's first byte. -/
def hdG (m : Mq) : UInt8 := b8I (bits .or .i64 (m.k * 16) (flG m))
theorem or0 : bits .or .i64 16 0 = 16 ∧ bits .or .i64 32 0 = 32 ∧ bits .or .i64 64 0 = 64 ∧ bits .or .i64 80 0 = 80 ∧ bits .or .i64 96 2 = 98 ∧ bits .or .i64 112 0 = 112 ∧ bits .or .i64 128 2 = 130 ∧ bits .or .i64 144 0 = 144 ∧ bits .or .i64 160 2 = 162 ∧ bits .or .i64 176 0 = 176 ∧ bits .or .i64 192 0 = 192 ∧ bits .or .i64 208 0 = 208 ∧ bits .or .i64 224 0 = 224 := by decide +kernel
theorem hd_of {m : Mq} {k f x : Int} (hk : m.k = k) (hf : flG m = f) (hx : bits .or .i64 (k * 16) f = x) (h : 0 ≤ x ∧ x ≤ 255) : ((hdG m).toNat : Int) = x := by
  unfold hdG; rw [hk, hf, hx, b8_lit x h]
theorem fl_k {m : Mq} {k : Int} (hk : m.k = k) (h3 : (k == 3) = false) : flG m = if (k == 6 || k == 8 || k == 10) then 2 else 0 := by unfold flG; rw [hk, if_neg (by rw [h3]; simp)]
theorem cn_parts {m : Mq} (hc : cnG m = true) : (0 ≤ m.keep ∧ m.keep < 65536) ∧ (0 ≤ m.wQ ∧ m.wQ ≤ 2) ∧ (m.cl.size < 65536 ∧ m.wT.size < 65536 ∧ m.wP.size < 65536 ∧ m.us.size < 65536 ∧ m.pa.size < 65536) ∧ (m.wI = false → m.wT = E0 ∧ m.wP = E0 ∧ m.wQ = 0 ∧ m.wR = false) ∧ (m.hu = false → m.us = E0) ∧ (m.hp = false → m.pa = E0) := by
  have hE : (ByteArray.empty) = E0 := rfl
  unfold cnG at hc
  simp only [Bool.and_eq_true, Bool.not_eq_true', decide_eq_false_iff_not] at hc
  obtain ⟨⟨c1, c2, c3, c4⟩, ⟨c5, c6⟩, c7, c8, c9⟩ := hc
  have d1 := tx_le (hi := 23) c1
  have d2 := tx_le (hi := 64) c5
  have hw : m.wT.size ≤ 1000 ∧ m.wP.size ≤ 1000 ∧ (0 ≤ m.wQ ∧ m.wQ ≤ 2) ∧ (m.wI = false → m.wT = E0 ∧ m.wP = E0 ∧ m.wQ = 0 ∧ m.wR = false) := by
    unfold wlG at c4
    split at c4
    · rename_i hi
      simp only [Bool.and_eq_true, decide_eq_true_eq] at c4
      have := tx_le (hi := 64) c4.1
      exact ⟨by omega, by omega, qs_le c4.2.2, fun h => by rw [hi] at h; cases h⟩
    · simp only [Bool.and_eq_true, beq_iff_eq, isE_iff, Bool.not_eq_true'] at c4
      obtain ⟨⟨⟨e1, e2⟩, e3⟩, e4⟩ := c4
      refine ⟨?_, ?_, by omega, fun _ => ⟨e1.trans hE, e2.trans hE, e3, e4⟩⟩
      · rw [e1]; decide
      · rw [e2]; decide
  refine ⟨by omega, hw.2.2.1, ⟨by omega, by omega, by omega, by omega, by omega⟩, hw.2.2.2, fun h => ?_, fun h => ?_⟩
  · rw [h, Bool.false_or] at c6; exact ((isE_iff _).1 c6).trans hE
  · rw [h, Bool.false_or] at c8; exact ((isE_iff _).1 c8).trans hE
theorem pb_parts {m : Mq} (hc : pbG m = true) : (0 ≤ m.q ∧ m.q ≤ 2) ∧ m.top.size < 65536 ∧ (0 ≤ m.id ∧ m.id < 65536) ∧ (m.q = 0 → m.id = 0) := by
  unfold pbG tpG at hc
  simp only [Bool.and_eq_true, Bool.not_eq_true', decide_eq_false_iff_not] at hc
  obtain ⟨⟨c1, -⟩, c2, c3, c4⟩ := hc
  have d1 := tx_le (hi := 64) c1
  have d2 := qs_le c2
  split at c4
  · rename_i h
    simp only [Bool.and_eq_true, beq_iff_eq] at c4
    exact ⟨d2, by omega, by omega, fun _ => c4.2⟩
  · rename_i h
    have := id_le c4
    exact ⟨d2, by omega, by omega, fun h0 => absurd (beq_iff_eq.2 h0) h⟩
/-- What may be is read as it was, by the program and by the page. -/
theorem dc_en {m : Mq} (h : mayG m = true) : dcG ((hdG m).toNat : Int) (bdG m) = m ∧ rcG ((hdG m).toNat : Int) (bdG m) = (m, false) := by
  obtain ⟨o1, o2, o4, o5, o6, o7, o8, o9, o10, o11, o12, o13, o14⟩ := or0
  rcases may_kind h with hk | hk | hk | hk | hk | hk | hk | hk | hk | hk | hk | hk | hk | hk
  · obtain ⟨hc, e⟩ := mf_1 h hk
    obtain ⟨p1, p2, p3, p4, p5, p6⟩ := cn_parts hc
    rw [hd_of hk (fl_k hk rfl) o1 (by decide)]
    exact ⟨dc_1 e p1 p2 p3 p4 p5 p6, rc_1 e p1 p2 p3 p4 p5 p6⟩
  · obtain ⟨hc, e⟩ := mf_2 h hk
    simp only [Bool.and_eq_true, decide_eq_true_eq] at hc
    rw [hd_of hk (fl_k hk rfl) o2 (by decide)]
    exact ⟨dc_2 e (by omega), rc_2 e (by omega)⟩
  · obtain ⟨hc, e⟩ := mf_3 h hk
    obtain ⟨p1, p2, p3, p4⟩ := pb_parts hc
    obtain ⟨x, g0, g1, g2, g3, g4, g5⟩ := fl_of m hk p1
    have hx : ((hdG m).toNat : Int) = 48 + x := by unfold hdG; rw [hk, g0]; show ((b8I (bits .or .i64 48 x)).toNat : Int) = _; rw [g2, b8_lit _ (by omega)]
    rw [hx]
    exact ⟨dc_3 e _ (by omega) g3 g4 g5 p1.1 p2 p3 p4, rc_3 e _ (by omega) g3 g4 g5 p1.1 p2 p3 p4⟩
  · obtain ⟨hc, e⟩ := mf_4 h hk
    have := id_le hc
    rw [hd_of hk (fl_k hk rfl) o4 (by decide)]
    exact ⟨dc_id 64 rfl (by simp) e (by omega), rc_id 64 rfl (by simp) e (by omega)⟩
  · obtain ⟨hc, e⟩ := mf_5 h hk
    have := id_le hc
    rw [hd_of hk (fl_k hk rfl) o5 (by decide)]
    exact ⟨dc_id 80 rfl (by simp) e (by omega), rc_id 80 rfl (by simp) e (by omega)⟩
  · obtain ⟨hc, e⟩ := mf_6 h hk
    have := id_le hc
    rw [hd_of hk (fl_k hk rfl) o6 (by decide)]
    exact ⟨dc_id 98 rfl (by simp) e (by omega), rc_id 98 rfl (by simp) e (by omega)⟩
  · obtain ⟨hc, e⟩ := mf_7 h hk
    have := id_le hc
    rw [hd_of hk (fl_k hk rfl) o7 (by decide)]
    exact ⟨dc_id 112 rfl (by simp) e (by omega), rc_id 112 rfl (by simp) e (by omega)⟩
  · obtain ⟨hc, e⟩ := mf_8 h hk
    simp only [Bool.and_eq_true] at hc
    have h1 := id_le hc.1
    have h2 := ct_le hc.2.1
    have h3 : ∀ x ∈ m.ws, x.f.size < 65536 ∧ 0 ≤ x.q ∧ x.q ≤ 255 := fun x hx => by
      have h4 := List.all_eq_true.1 hc.2.2 x hx; unfold wishG at h4; rw [Bool.and_eq_true] at h4
      have h5 := tx_le (hi := 64) h4.1; have h6 := qs_le h4.2; exact ⟨by omega, by omega, by omega⟩
    rw [hd_of hk (fl_k hk rfl) o8 (by decide)]
    exact ⟨dc_8 e (by omega) (by omega) h3, rc_8 e (by omega) h2.2 h3⟩
  · obtain ⟨hc, e⟩ := mf_9 h hk
    simp only [Bool.and_eq_true] at hc
    have h1 := id_le hc.1
    have h2 := ct_le hc.2.1
    have h3 : ∀ x ∈ m.cs, 0 ≤ x ∧ x ≤ 255 := fun x hx => by
      have h4 := List.all_eq_true.1 hc.2.2 x hx; unfold codeG at h4; rw [Bool.or_eq_true, beq_iff_eq] at h4
      rcases h4 with h4 | h4
      · have h6 := qs_le h4; omega
      · omega
    rw [hd_of hk (fl_k hk rfl) o9 (by decide)]
    exact ⟨dc_9 e (by omega) (by omega) h3, rc_9 e (by omega) h2.2 h3⟩
  · obtain ⟨hc, e⟩ := mf_10 h hk
    simp only [Bool.and_eq_true] at hc
    have h1 := id_le hc.1
    have h2 := ct_le hc.2.1
    have h3 : ∀ x ∈ m.fs, x.size < 65536 := fun x hx => by
      have h4 := List.all_eq_true.1 hc.2.2 x hx; unfold filtG at h4
      have h5 := tx_le (hi := 64) h4; omega
    rw [hd_of hk (fl_k hk rfl) o10 (by decide)]
    exact ⟨dc_10 e (by omega) (by omega) h3, rc_10 e (by omega) h2.2 h3⟩
  · obtain ⟨hc, e⟩ := mf_11 h hk
    have := id_le hc
    rw [hd_of hk (fl_k hk rfl) o11 (by decide)]
    exact ⟨dc_id 176 rfl (by simp) e (by omega), rc_id 176 rfl (by simp) e (by omega)⟩
  · obtain ⟨-, e⟩ := mf_12 h hk
    rw [hd_of hk (fl_k hk rfl) o12 (by decide), e]
    exact ⟨rfl, rfl⟩
  · obtain ⟨-, e⟩ := mf_13 h hk
    rw [hd_of hk (fl_k hk rfl) o13 (by decide), e]
    exact ⟨rfl, rfl⟩
  · obtain ⟨-, e⟩ := mf_14 h hk
    rw [hd_of hk (fl_k hk rfl) o14 (by decide), e]
    exact ⟨rfl, rfl⟩
/-- How long a packet is: what stands ahead of its body, its body, the error. -/
def msG (k acc : Nat) : List UInt8 → Nat × Nat × Int
  | [] => (0, 0, 7)
  | x :: t => if x.toNat < 128 then (if 0 < x.toNat ∨ k = 0 then (k + 2, acc + x.toNat * 128 ^ k, 0) else (0, 0, 1)) else if k = 3 then (0, 0, 1) else msG (k + 1) (acc + (x.toNat - 128) * 128 ^ k) t
theorem ms_len : ∀ (j k acc n : Nat) (r : List UInt8), j + 1 + k ≤ 4 → n < 128 ^ (j + 1) → (0 < n ∨ k = 0) → msG k acc (lenG n ++ r) = (k + 1 + (lenG n).length, acc + n * 128 ^ k, 0) := by
  have small : ∀ (k acc n : Nat) (r : List UInt8), n < 128 → (0 < n ∨ k = 0) → msG k acc (lenG n ++ r) = (k + 1 + (lenG n).length, acc + n * 128 ^ k, 0) := by
    intro k acc n r h h0
    rw [lenG_small h]
    have e : (UInt8.ofNat n).toNat = n := by simp only [UInt8.toNat_ofNat']; omega
    show msG k acc (UInt8.ofNat n :: r) = _
    unfold msG
    rw [e, if_pos h, if_pos h0]; rfl
  intro j
  induction j with
  | zero => intro k acc n r h1 h2 h3; exact small k acc n r (by simpa using h2) h3
  | succ j ih =>
    intro k acc n r h1 h2 h3
    by_cases h : n < 128
    · exact small k acc n r h h3
    · have hb : n < 268435456 := by
        have : (128 : Nat) ^ (j + 1 + 1) ≤ 128 ^ 4 := Nat.pow_le_pow_right (by decide) (by omega)
        omega
      rw [lenG_step (by omega) hb]
      have e : (UInt8.ofNat (n % 128 + 128)).toNat = n % 128 + 128 := by simp only [UInt8.toNat_ofNat']; omega
      show msG k acc (UInt8.ofNat (n % 128 + 128) :: (lenG (n / 128) ++ r)) = _
      rw [msG, e, if_neg (by omega), if_neg (by omega), ih (k + 1) _ (n / 128) r (by omega) (by rw [Nat.div_lt_iff_lt_mul (by decide)]; rwa [Nat.pow_succ] at h2) (by omega)]
      have e2 : acc + (n % 128 + 128 - 128) * 128 ^ k + n / 128 * 128 ^ (k + 1) = acc + n * 128 ^ k := by
        rw [Nat.pow_succ, Nat.add_sub_cancel, Nat.add_assoc, Nat.mul_comm (128 ^ k) 128, ← Nat.mul_assoc, ← Nat.add_mul]
        have := Nat.mod_add_div n 128
        rw [show n % 128 + n / 128 * 128 = n by omega]
      rw [e2]; simp; omega
/-- The packet with which bytes begin, as it was read: it is it, if its bytes are these. -/
def ckG (d : Mq) (ok : Bool) (x : List UInt8) : Mq × Nat × Int := if (ok && (mayG d && (enG d == x))) = true then (d, x.length, 0) else (zM 0, 0, 1)
def cutG (d : Int → List UInt8 → Mq × Bool) (l : List UInt8) (h n : Nat) : Mq × Nat × Int := match l with
  | [] => (zM 0, 0, 7)
  | x :: t => if 1024 < h + n then (zM 0, 0, 2) else if (x :: t).length < h + n then (zM 0, 0, 7) else ckG (d (x.toNat : Int) (((x :: t).take (h + n)).drop h)).1 (!(d (x.toNat : Int) (((x :: t).take (h + n)).drop h)).2) ((x :: t).take (h + n))
def parG (d : Int → List UInt8 → Mq × Bool) (l : List UInt8) : Mq × Nat × Int := match l with
  | [] => (zM 0, 0, 7)
  | x :: t => if (msG 0 0 t).2.2 = 0 then cutG d (x :: t) (msG 0 0 t).1 (msG 0 0 t).2.1 else (zM 0, 0, (msG 0 0 t).2.2)
def paG (l : List UInt8) : Mq × Nat × Int := parG (fun f b => (dcG f b, false)) l
def rpG (l : List UInt8) : Mq × Nat × Int := parG rcG l
theorem en_eq (m : Mq) : enG m = hdG m :: (lenG (bdG m).length ++ bdG m) := rfl
/-- What may be with just these bytes is what is read. -/
theorem read_en {m : Mq} (hm : mayG m = true) (hl : (bdG m).length < 268435456) {x : UInt8} {t : List UInt8} {h n : Nat} (hs : msG 0 0 t = (h, n, 0)) (he : enG m = (x :: t).take (h + n)) :
    dcG (x.toNat : Int) (((x :: t).take (h + n)).drop h) = m ∧ rcG (x.toNat : Int) (((x :: t).take (h + n)).drop h) = (m, false) := by
  rw [← he, en_eq]
  have hx : x = hdG m ∧ ∃ r, t = lenG (bdG m).length ++ (bdG m ++ r) := by
    have hne : h + n ≠ 0 := by intro h0; rw [h0, List.take_zero, en_eq] at he; cases he
    obtain ⟨j, hj⟩ := Nat.exists_eq_succ_of_ne_zero hne
    rw [hj, List.take_succ_cons, en_eq] at he
    injection he with h1 h2
    refine ⟨h1.symm, t.drop j, ?_⟩
    rw [← List.append_assoc, h2, List.take_append_drop]
  obtain ⟨rfl, r, rfl⟩ := hx
  rw [ms_len 3 0 0 _ _ (by omega) (by omega) (.inr rfl)] at hs
  injection hs with h1 h2
  have e : (hdG m :: (lenG (bdG m).length ++ bdG m)).drop h = bdG m := by
    rw [← h1, show 0 + 1 + (lenG (bdG m).length).length = (lenG (bdG m).length).length + 1 by omega, List.drop_succ_cons, List.drop_left']
    rfl
  rw [e]
  exact dc_en hm
theorem fm_le {α : Type} {f : α → List UInt8} {B : Nat} : ∀ {L : List α}, (∀ x ∈ L, (f x).length ≤ B) → (L.flatMap f).length ≤ L.length * B
  | [], _ => by simp
  | x :: t, h => by
    have h1 := h x (List.mem_cons_self ..)
    have h2 := fm_le (L := t) (fun y hy => h y (List.mem_cons_of_mem _ hy))
    rw [List.flatMap_cons, List.length_append, List.length_cons, Nat.succ_mul]; omega
theorem bd_le {m : Mq} (h : mayG m = true) : (bdG m).length ≤ 600 := by
  rcases may_kind h with hk | hk | hk | hk | hk | hk | hk | hk | hk | hk | hk | hk | hk | hk
  · obtain ⟨hc, -⟩ := mf_1 h hk
    have e : bdG m = cbG m := by unfold bdG; rw [hk]; rfl
    unfold cnG at hc
    simp only [Bool.and_eq_true, Bool.not_eq_true', decide_eq_false_iff_not] at hc
    obtain ⟨⟨c1, c2, c3, c4⟩, ⟨c5, c6⟩, c7, c8, c9⟩ := hc
    have d1 := tx_le (hi := 23) c1
    have d2 := tx_le (hi := 64) c5
    have hw : m.wI = true → m.wT.size ≤ 64 ∧ m.wP.size ≤ 128 := fun hi => by
      unfold wlG at c4
      rw [if_pos hi] at c4
      simp only [Bool.and_eq_true, decide_eq_true_eq] at c4
      have := tx_le (hi := 64) c4.1
      exact ⟨by omega, by omega⟩
    have g1 : (if m.wI then encS m.wT ++ encS m.wP else []).length ≤ 196 := by
      split
      · rename_i hi; have := hw hi; rw [List.length_append, encS_len, encS_len]; omega
      · simp
    have g2 : (if m.hu then encS m.us else []).length ≤ 66 := by split <;> simp [encS_len] <;> omega
    have g3 : (if m.hp then encS m.pa else []).length ≤ 66 := by split <;> simp [encS_len] <;> omega
    rw [e]; unfold cbG
    simp only [List.length_append, encS_len, bigv_length, show mqtt.length = 6 from rfl, List.length_cons, List.length_nil] at g1 g2 g3 ⊢
    omega
  · have e : bdG m = [b8I (flg m.pres 1), b8I m.code] := by unfold bdG; rw [hk]; rfl
    rw [e]; simp
  · obtain ⟨hc, -⟩ := mf_3 h hk
    have e : bdG m = encS m.top ++ ((if decide (0 < m.q) then bigv m.id 2 else []) ++ m.pay.data.toList) := by unfold bdG; rw [hk]; simp
    unfold pbG tpG at hc
    simp only [Bool.and_eq_true, Bool.not_eq_true', decide_eq_false_iff_not] at hc
    obtain ⟨⟨c1, -⟩, c2, c3, c4⟩ := hc
    have d1 := tx_le (hi := 64) c1
    have g1 : (if decide (0 < m.q) then bigv m.id 2 else []).length ≤ 2 := by split <;> simp [bigv_length]
    have g2 : m.pay.data.toList.length = m.pay.size := Array.length_toList
    rw [e, List.length_append, List.length_append, encS_len, g2]; omega
  · have e : bdG m = bigv m.id 2 := by unfold bdG; rw [(mf_4 h hk).2]; simp [zM]
    rw [e, bigv_length]; omega
  · have e : bdG m = bigv m.id 2 := by unfold bdG; rw [(mf_5 h hk).2]; simp [zM]
    rw [e, bigv_length]; omega
  · have e : bdG m = bigv m.id 2 := by unfold bdG; rw [(mf_6 h hk).2]; simp [zM]
    rw [e, bigv_length]; omega
  · have e : bdG m = bigv m.id 2 := by unfold bdG; rw [(mf_7 h hk).2]; simp [zM]
    rw [e, bigv_length]; omega
  · obtain ⟨hc, e0⟩ := mf_8 h hk
    have e : bdG m = bigv m.id 2 ++ m.ws.flatMap encW := by unfold bdG; rw [e0]; simp [zM]
    simp only [Bool.and_eq_true] at hc
    have h2 := ct_le hc.2.1
    have h3 := fm_le (f := encW) (B := 67) (L := m.ws) (fun x hx => by
      have h4 := List.all_eq_true.1 hc.2.2 x hx; unfold wishG at h4; rw [Bool.and_eq_true] at h4
      have h5 := tx_le (hi := 64) h4.1; unfold encW; rw [List.length_append, encS_len]; simp; omega)
    rw [e, List.length_append, bigv_length]; have := Nat.mul_le_mul_right 67 h2.2; omega
  · obtain ⟨hc, e0⟩ := mf_9 h hk
    have e : bdG m = bigv m.id 2 ++ m.cs.map b8I := by unfold bdG; rw [e0]; simp [zM]
    simp only [Bool.and_eq_true] at hc
    have h2 := ct_le hc.2.1
    rw [e, List.length_append, bigv_length, List.length_map]; omega
  · obtain ⟨hc, e0⟩ := mf_10 h hk
    have e : bdG m = bigv m.id 2 ++ m.fs.flatMap encS := by unfold bdG; rw [e0]; simp [zM]
    simp only [Bool.and_eq_true] at hc
    have h2 := ct_le hc.2.1
    have h3 := fm_le (f := encS) (B := 66) (L := m.fs) (fun x hx => by
      have h4 := List.all_eq_true.1 hc.2.2 x hx; unfold filtG at h4
      have h5 := tx_le (hi := 64) h4; rw [encS_len]; omega)
    rw [e, List.length_append, bigv_length]; have := Nat.mul_le_mul_right 66 h2.2; omega
  · have e : bdG m = bigv m.id 2 := by unfold bdG; rw [(mf_11 h hk).2]; simp [zM]
    rw [e, bigv_length]; omega
  · have e : bdG m = [] := by unfold bdG; rw [(mf_12 h hk).2]; simp [zM]
    rw [e]; exact Nat.zero_le _
  · have e : bdG m = [] := by unfold bdG; rw [(mf_13 h hk).2]; simp [zM]
    rw [e]; exact Nat.zero_le _
  · have e : bdG m = [] := by unfold bdG; rw [(mf_14 h hk).2]; simp [zM]
    rw [e]; exact Nat.zero_le _
theorem en_len {m : Mq} (h : mayG m = true) : (enG m).length = (lenG (bdG m).length).length + (bdG m).length + 1 ∧ (enG m).length ≤ 606 := by
  have h1 := bd_le h
  have h2 := lenG_len (bdG m).length
  have e : (enG m).length = (lenG (bdG m).length).length + (bdG m).length + 1 := by rw [en_eq, List.length_cons, List.length_append]
  exact ⟨e, by omega⟩
/-- The program and the page read the same. -/
theorem pa_rp (l : List UInt8) : paG l = rpG l := by
  unfold paG rpG parG
  cases l with
  | nil => rfl
  | cons x t =>
    dsimp only
    split
    · rename_i he
      generalize hM : msG 0 0 t = M at he
      obtain ⟨h, n, e⟩ := M
      dsimp only at he ⊢
      subst he
      unfold cutG
      dsimp only
      split
      · rfl
      split
      · rfl
      · generalize hd : dcG (x.toNat : Int) (((x :: t).take (h + n)).drop h) = d
        generalize hr : rcG (x.toNat : Int) (((x :: t).take (h + n)).drop h) = r
        obtain ⟨r1, r2⟩ := r
        unfold ckG
        dsimp only
        by_cases hA : (mayG d && (enG d == (x :: t).take (h + n))) = true
        · rw [Bool.and_eq_true, beq_iff_eq] at hA
          obtain ⟨-, g2⟩ := read_en hA.1 (by have := bd_le hA.1; omega) hM hA.2
          rw [hr] at g2
          injection g2 with g3 g4
          subst g3 g4
          rfl
        · have hB : ¬ ((!r2 && (mayG r1 && (enG r1 == (x :: t).take (h + n)))) = true) := by
            intro hB
            have hC := (Bool.and_eq_true _ _ ▸ hB).2
            have hD := hC
            rw [Bool.and_eq_true, beq_iff_eq] at hC
            obtain ⟨g1, -⟩ := read_en hC.1 (by have := bd_le hC.1; omega) hM hC.2
            rw [hd] at g1
            subst g1
            exact hA hD
          rw [if_neg hB, if_neg (by simpa using hA)]
    · rfl
theorem pa_en {m : Mq} (hm : mayG m = true) (r : List UInt8) : paG (enG m ++ r) = (m, (enG m).length, 0) := by
  obtain ⟨e1, e2⟩ := en_len hm
  have h1 := bd_le hm
  have hs := ms_len 3 0 0 (bdG m).length (bdG m ++ r) (by omega) (by omega) (.inr rfl)
  have et : enG m ++ r = hdG m :: (lenG (bdG m).length ++ (bdG m ++ r)) := by rw [en_eq, List.cons_append, List.append_assoc]
  have hl : (hdG m :: (lenG (bdG m).length ++ (bdG m ++ r))).take (0 + 1 + (lenG (bdG m).length).length + (0 + (bdG m).length * 128 ^ 0)) = enG m := by
    rw [← et, show 0 + 1 + (lenG (bdG m).length).length + (0 + (bdG m).length * 128 ^ 0) = (enG m).length by simp; omega, List.take_left' rfl]
  rw [et]
  unfold paG parG
  dsimp only
  rw [hs]
  dsimp only
  rw [if_pos rfl]
  unfold cutG
  dsimp only
  rw [if_neg (by simp; omega), if_neg (by rw [← et, List.length_append]; simp; omega)]
  obtain ⟨g1, -⟩ := read_en hm (by omega) hs hl.symm
  rw [g1, hl]
  unfold ckG
  rw [if_pos (by simp [hm])]
theorem pa_ok {l : List UInt8} {d : Mq} {n : Nat} (h : paG l = (d, n, 0)) : mayG d = true ∧ enG d = l.take n ∧ n ≤ l.length ∧ 1 ≤ n := by
  unfold paG parG at h
  cases l with
  | nil => simp at h
  | cons x t =>
    dsimp only at h
    split at h
    · unfold cutG at h
      dsimp only at h
      split at h
      · simp at h
      split at h
      · simp at h
      · rename_i h2
        unfold ckG at h
        split at h
        · rename_i hc
          injection h with a1 a2
          injection a2 with a2 a3
          subst a1
          rw [Bool.and_eq_true, Bool.and_eq_true, beq_iff_eq] at hc
          rw [List.length_take, Nat.min_eq_left (by omega)] at a2
          subst a2
          refine ⟨hc.2.1, hc.2.2, by omega, ?_⟩
          have := congrArg List.length hc.2.2
          rw [List.length_take, Nat.min_eq_left (by omega), (en_len hc.2.1).1] at this
          omega
        · simp at h
    · rename_i h2
      injection h with a1 a2
      injection a2 with a2 a3
      exact absurd a3 h2
theorem pa_no {l : List UInt8} (h : (paG l).2.2 ≠ 0) : paG l = (zM 0, 0, (paG l).2.2) := by
  revert h
  unfold paG parG
  cases l with
  | nil => intro; rfl
  | cons x t =>
    dsimp only
    split
    · unfold cutG
      dsimp only
      split
      · intro; rfl
      split
      · intro; rfl
      · unfold ckG
        split
        · intro h; exact absurd rfl h
        · intro; rfl
    · intro; rfl
theorem ms_cut : ∀ (j k acc n i : Nat), j + 1 + k ≤ 4 → n < 128 ^ (j + 1) → i < (lenG n).length → msG k acc ((lenG n).take i) = (0, 0, 7) := by
  intro j
  induction j with
  | zero =>
    intro k acc n i h1 h2 h3
    rw [lenG_small (by simpa using h2)] at h3 ⊢
    have : i = 0 := by simpa using h3
    subst this; rfl
  | succ j ih =>
    intro k acc n i h1 h2 h3
    by_cases h : n < 128
    · rw [lenG_small h] at h3 ⊢
      have : i = 0 := by simpa using h3
      subst this; rfl
    · have hb : n < 268435456 := by
        have : (128 : Nat) ^ (j + 1 + 1) ≤ 128 ^ 4 := Nat.pow_le_pow_right (by decide) (by omega)
        omega
      rw [lenG_step (by omega) hb] at h3 ⊢
      have e : (UInt8.ofNat (n % 128 + 128)).toNat = n % 128 + 128 := by simp only [UInt8.toNat_ofNat']; omega
      match i with
      | 0 => rfl
      | i + 1 =>
        rw [List.take_succ_cons, msG, e, if_neg (by omega), if_neg (by omega)]
        exact ih (k + 1) _ (n / 128) i (by omega) (by rw [Nat.div_lt_iff_lt_mul (by decide)]; rwa [Nat.pow_succ] at h2) (by simpa using h3)
theorem pa_cut {m : Mq} (hm : mayG m = true) {k : Nat} (hk : k < (enG m).length) : paG ((enG m).take k) = (zM 0, 0, 7) := by
  obtain ⟨e1, e2⟩ := en_len hm
  have h1 := bd_le hm
  match k, hk with
  | 0, _ => rfl
  | k + 1, hk =>
    rw [en_eq, List.take_succ_cons]
    unfold paG parG
    dsimp only
    by_cases hc : k < (lenG (bdG m).length).length
    · rw [List.take_append_of_le_length (by omega), ms_cut 3 0 0 _ k (by omega) (by omega) hc]
      rfl
    · obtain ⟨j, rfl⟩ := Nat.exists_eq_add_of_le (Nat.le_of_not_lt hc)
      have e3 : (lenG (bdG m).length ++ bdG m).take ((lenG (bdG m).length).length + j) = lenG (bdG m).length ++ (bdG m).take j := by
        rw [List.take_append, List.take_of_length_le (by omega), Nat.add_sub_cancel_left]
      rw [e3, ms_len 3 0 0 _ _ (by omega) (by omega) (.inr rfl)]
      dsimp only
      rw [if_pos rfl]
      unfold cutG
      dsimp only
      rw [if_neg (by simp; omega), if_pos (by simp only [List.length_cons, List.length_append, List.length_take]; simp; omega)]
end Go.Proofs.YtpgnlhfokffioaaDoor
