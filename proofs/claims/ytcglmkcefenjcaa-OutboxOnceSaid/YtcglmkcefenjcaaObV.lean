/-
  An outbox: mathematics of OutboxOnce.
-/
import Derived.Test.YtcglmkcefenjcaaObI
import Derived.Lib.SlBytesRow
namespace Go.Proofs.Ytcglmkcefenjcaa
open Go.RowKit Go.Lib
theorem nodup_len : ∀ {C D : List Int}, C.Nodup → (∀ c ∈ C, c ∈ D) → C.length ≤ D.length
  | [], _, _, _ => Nat.zero_le _
  | c :: C, D, hn, hs => by
    have h1 := List.nodup_cons.1 hn
    have hc := hs c (by simp)
    have h2 := nodup_len (C := C) (D := D.erase c) h1.2 (fun x hx => (List.mem_erase_of_ne (fun e : x = c => h1.1 (by rw [← e]; exact hx))).2 (hs x (by simp [hx])))
    have h3 := List.length_erase_of_mem hc
    have h4 := List.length_pos_of_mem hc
    rw [List.length_cons]; omega
theorem findO_mem {L : List EFl} {id : Int} (h : 0 ≤ findO L id) : id ∈ L.map (·.id) := by
  obtain ⟨i, x, hi, hx⟩ := fnd_some h
  have hm := List.mem_of_getElem? hx
  have : x.id = id := by
    by_cases e : x.id = id
    · exact e
    · exfalso
      have hno : ∀ {M : List EFl} {j : Nat} {y : EFl}, findO M id = (j : Int) → M[j]? = some y → y.id = id := by
        intro M
        induction M with
        | nil => intro j y h _; unfold findO at h; omega
        | cons f r ih =>
          intro j y h hy
          unfold findO at h
          by_cases h1 : (f.id == id) = true
          · rw [if_pos h1] at h
            obtain rfl : j = 0 := by omega
            simp at hy; subst hy; simpa using h1
          · rw [if_neg h1] at h
            by_cases h2 : findO r id < 0
            · rw [if_pos h2] at h; omega
            · rw [if_neg h2] at h
              obtain ⟨k, rfl⟩ : ∃ k, j = k + 1 := ⟨j - 1, by omega⟩
              exact ih (j := k) (by omega) (by simpa using hy)
      exact e (hno hi hx)
  exact List.mem_map.2 ⟨x, hm, this⟩
theorem findO_neg {L : List EFl} {id : Int} (h : findO L id < 0) : id ∉ L.map (·.id) := by
  induction L with
  | nil => simp
  | cons f r ih =>
    unfold findO at h
    by_cases h1 : (f.id == id) = true
    · rw [if_pos h1] at h; omega
    · rw [if_neg h1] at h
      by_cases h2 : findO r id < 0
      · intro hm
        rw [List.map_cons, List.mem_cons] at hm
        rcases hm with hm | hm
        · exact h1 (by simp [hm])
        · exact ih h2 hm
      · rw [if_neg h2] at h; omega
theorem nx_free {last : Int} {L : List EFl} (h0 : 0 ≤ last) (hl : L.length ≤ 4) : ∃ z, nxO 8 last L = some z ∧ 1 ≤ z ∧ z ≤ 65535 ∧ findO L z < 0 := by
  have ht : ∀ x : Int, 0 ≤ x → x.tmod 65535 = x % 65535 := fun x hx => Int.tmod_eq_emod_of_nonneg hx
  obtain ⟨a, ha⟩ : ∃ a, a = last % 65535 + 1 := ⟨_, rfl⟩
  obtain ⟨b, hb⟩ : ∃ b, b = a % 65535 + 1 := ⟨_, rfl⟩
  obtain ⟨c, hc⟩ : ∃ c, c = b % 65535 + 1 := ⟨_, rfl⟩
  obtain ⟨d, hd⟩ : ∃ d, d = c % 65535 + 1 := ⟨_, rfl⟩
  obtain ⟨e, he⟩ : ∃ e, e = d % 65535 + 1 := ⟨_, rfl⟩
  have fa : (last.tmod 65535 + 1) = a := by rw [ht _ h0]; omega
  have fb : (a.tmod 65535 + 1) = b := by rw [ht _ (by omega)]; omega
  have fc : (b.tmod 65535 + 1) = c := by rw [ht _ (by omega)]; omega
  have fd : (c.tmod 65535 + 1) = d := by rw [ht _ (by omega)]; omega
  have fe : (d.tmod 65535 + 1) = e := by rw [ht _ (by omega)]; omega
  by_cases ca : findO L a < 0
  · exact ⟨a, by unfold nxO; rw [fa, if_pos ca], by omega, by omega, ca⟩
  by_cases cb : findO L b < 0
  · exact ⟨b, by unfold nxO; rw [fa, if_neg ca]; unfold nxO; rw [fb, if_pos cb], by omega, by omega, cb⟩
  by_cases cc : findO L c < 0
  · exact ⟨c, by unfold nxO; rw [fa, if_neg ca]; unfold nxO; rw [fb, if_neg cb]; unfold nxO; rw [fc, if_pos cc], by omega, by omega, cc⟩
  by_cases cd : findO L d < 0
  · exact ⟨d, by unfold nxO; rw [fa, if_neg ca]; unfold nxO; rw [fb, if_neg cb]; unfold nxO; rw [fc, if_neg cc]; unfold nxO; rw [fd, if_pos cd], by omega, by omega, cd⟩
  by_cases ce : findO L e < 0
  · exact ⟨e, by unfold nxO; rw [fa, if_neg ca]; unfold nxO; rw [fb, if_neg cb]; unfold nxO; rw [fc, if_neg cc]; unfold nxO; rw [fd, if_neg cd]; unfold nxO; rw [fe, if_pos ce], by omega, by omega, ce⟩
  exfalso
  have hn : [a, b, c, d, e].Nodup := by
    simp only [List.nodup_cons, List.mem_cons, List.not_mem_nil, or_false, not_or, not_false_eq_true, List.nodup_nil, and_true]
    omega
  have := nodup_len hn (D := L.map (·.id)) (fun x hx => by
    simp only [List.mem_cons, List.not_mem_nil, or_false] at hx
    rcases hx with rfl | rfl | rfl | rfl | rfl
    · exact findO_mem (by omega)
    · exact findO_mem (by omega)
    · exact findO_mem (by omega)
    · exact findO_mem (by omega)
    · exact findO_mem (by omega))
  rw [List.length_map] at this
  simp at this; omega
/-- What fill leaves. -/
theorem fill_spec : ∀ {k : Nat} {la : Int} {fl : List EFl} {qu : List EMsg}, 0 ≤ la → la ≤ 65535 → fl.length ≤ 4 → 4 ≤ k + fl.length → (fl.map (·.id)).Nodup →
    ∃ oz news, fillO k ⟨la, fl, qu⟩ = some (oz, news.map pubP) ∧ oz.fl = fl ++ news ∧ qu = news.map (·.m) ++ oz.qu ∧ (∀ f ∈ news, f.rc = false ∧ 1 ≤ f.id ∧ f.id ≤ 65535) ∧ ((fl ++ news).map (·.id)).Nodup ∧ 0 ≤ oz.last ∧ oz.last ≤ 65535 ∧ (oz.qu = [] ∨ oz.fl.length = 4) ∧ oz.fl.length ≤ 4
  | 0, la, fl, qu, h0, h1, h4, hk, hn => ⟨⟨la, fl, qu⟩, [], rfl, by simp, by simp, by simp, by simpa using hn, h0, h1, .inr (show fl.length = 4 by omega), h4⟩
  | k + 1, la, fl, [], h0, h1, h4, hk, hn => ⟨⟨la, fl, []⟩, [], rfl, by simp, by simp, by simp, by simpa using hn, h0, h1, .inl rfl, h4⟩
  | k + 1, la, fl, m :: r, h0, h1, h4, hk, hn => by
    by_cases hf : 4 ≤ fl.length
    · exact ⟨⟨la, fl, m :: r⟩, [], by unfold fillO; simp [hf], by simp, by simp, by simp, by simpa using hn, h0, h1, .inr (show fl.length = 4 by omega), h4⟩
    · obtain ⟨z, hz, hz1, hz2, hz3⟩ := nx_free (L := fl) h0 (by omega)
      have hn2 : ((fl ++ [(⟨z, m, false⟩ : EFl)]).map (fun (f : EFl) => f.id)).Nodup := by
        rw [List.map_append, List.nodup_append]
        refine ⟨hn, by simp, fun a ha b hb e => ?_⟩
        simp at hb
        exact findO_neg hz3 (by rw [← hb, ← e]; exact ha)
      obtain ⟨oz, news, e1, e2, e3, e4, e5, e6, e7, e8, e9⟩ := fill_spec (k := k) (la := z) (fl := fl ++ [⟨z, m, false⟩]) (qu := r) (by omega) hz2 (by simp; omega) (by simp; omega) hn2
      refine ⟨oz, ⟨z, m, false⟩ :: news, ?_, by rw [e2]; simp, by rw [List.map_cons, List.cons_append, ← e3], fun f hf2 => ?_, by simpa using e5, e6, e7, e8, e9⟩
      · unfold fillO
        simp only [if_neg hf, hz, e1]
        rfl
      · rcases List.mem_cons.1 hf2 with rfl | hf2
        · exact ⟨rfl, hz1, hz2⟩
        · exact e4 f hf2
end Go.Proofs.Ytcglmkcefenjcaa
namespace Go.Proofs.Ytcglmkcefenjcaa
open Go.RowKit Go.Lib
/-- The payload of the n-th message. -/
def pay (n : Nat) : ByteArray := { data := #[UInt8.ofNat (33 + n)] }
/-- What holds of a message that was taken as the n-th. -/
def isMsg (m : EMsg) (n : Nat) : Prop := m.t.size = 1 ∧ m.p = pay n ∧ (m.q = 1 ∨ m.q = 2)
theorem isMsg.va {m : EMsg} {n : Nat} (h : isMsg m n) : vaM m = true := by
  obtain ⟨h1, h2, h3⟩ := h
  have h4 : m.p.size = 1 := by rw [h2]; rfl
  unfold vaM
  simp only [h1, h4, Bool.and_eq_true, decide_eq_true_eq, Bool.or_eq_true, beq_iff_eq]
  exact ⟨by decide, by decide, by decide, h3⟩
structure OI (o : EO) (taken came : Nat) (seen : Nat → Int) (recd : Nat → Bool) (N : List Nat) : Prop where
  hl : N.length = o.fl.length
  ct : came ≤ taken
  fl : ∀ (j : Nat) (f : EFl) (n : Nat), o.fl[j]? = some f → N[j]? = some n → n < came ∧ isMsg f.m n ∧ (1 ≤ f.id ∧ f.id ≤ 65535) ∧ seen n = f.id ∧ recd n = f.rc ∧ (f.rc = true → f.m.q = 2)
  nd : (o.fl.map (·.id)).Nodup
  ndN : N.Nodup
  ql : o.qu.length = taken - came
  qu : ∀ (j : Nat) (m : EMsg), o.qu[j]? = some m → isMsg m (came + j)
  l0 : 0 ≤ o.last
  l1 : o.last ≤ 65535
  f4 : o.fl.length ≤ 4
  q8 : o.qu.length ≤ 8
  seen0 : ∀ n, n < came → 1 ≤ seen n
  seen1 : ∀ n, came ≤ n → seen n = 0
  rec1 : ∀ n, came ≤ n → recd n = false
theorem nodup_take {L : List EFl} {i : Nat} {f : EFl} (h : (L.map (·.id)).Nodup) (hf : L[i]? = some f) : findO (L.take i) f.id < 0 := by
  by_cases hc : findO (L.take i) f.id < 0
  · exact hc
  · exfalso
    have hm := findO_mem (L := L.take i) (id := f.id) (by omega)
    rw [List.map_take] at hm
    obtain ⟨j, hj, e⟩ := List.getElem_of_mem hm
    rw [List.getElem_take] at e
    have hj2 : j < i := by rw [List.length_take] at hj; omega
    obtain ⟨hi, e2⟩ := List.getElem?_eq_some_iff.1 hf
    have hp := List.pairwise_iff_getElem.1 h j i (by rw [List.length_map]; omega) (by rw [List.length_map]; exact hi) hj2
    apply hp
    rw [e, List.getElem_map, e2]
theorem OI.check {o : EO} {taken came : Nat} {seen : Nat → Int} {recd : Nat → Bool} {N : List Nat} (h : OI o taken came seen recd N) : checkO o = true := by
  have h1 := h.l0
  have h2 := h.l1
  have h3 := h.f4
  have h4 := h.q8
  have hF : okF o.fl = true := by
    unfold okF
    rw [List.all_eq_true]
    intro i hi
    rw [List.mem_range] at hi
    obtain ⟨f, hf⟩ : ∃ f, o.fl[i]? = some f := ⟨_, List.getElem?_eq_getElem hi⟩
    obtain ⟨n, hn⟩ : ∃ n, N[i]? = some n := ⟨_, List.getElem?_eq_getElem (by rw [h.hl]; exact hi)⟩
    obtain ⟨g1, g2, ⟨g3, g4⟩, g5, g6, g7⟩ := h.fl i f n hf hn
    have g8 := nodup_take h.nd hf
    rw [okAt_some hf]
    unfold okE
    rw [g2.va]
    have k1 : decide (f.id < 1) = false := decide_eq_false (by omega)
    have k2 : decide (65535 < f.id) = false := decide_eq_false (by omega)
    have k3 : decide (0 ≤ findO (o.fl.take i) f.id) = false := decide_eq_false (by omega)
    rw [k1, k2, k3]
    cases hr : f.rc with
    | false => rfl
    | true => rw [g7 hr]; rfl
  have hQ : o.qu.all vaM = true := by
    rw [List.all_eq_true]
    intro m hm
    obtain ⟨j, hj⟩ := List.mem_iff_getElem?.1 hm
    exact (h.qu j m hj).va
  unfold checkO
  rw [hF, hQ]
  simp only [Bool.and_eq_true, Bool.not_eq_true', decide_eq_false_iff_not, and_true]
  omega
/-- Nothing was taken yet. -/
theorem OI.start : OI o0 0 0 (fun _ => 0) (fun _ => false) [] where
  hl := rfl
  ct := Nat.le_refl _
  fl := fun j f n h => by simp [o0] at h
  nd := by simp [o0]
  ndN := by simp
  ql := rfl
  qu := fun j m h => by simp [o0] at h
  l0 := Int.le_refl _
  l1 := by simp [o0]
  f4 := by simp [o0]
  q8 := by simp [o0]
  seen0 := fun n h => by omega
  seen1 := fun _ _ => rfl
  rec1 := fun _ _ => rfl
/-- What was seen, behind new ones. -/
def seenF (seen : Nat → Int) (came : Nat) (news : List EFl) (n : Nat) : Int := if n < came then seen n else match news[n - came]? with | some f => f.id | none => 0
/-- Behind fill. -/
theorem OI.fill {o : EO} {taken came : Nat} {seen : Nat → Int} {recd : Nat → Bool} {N : List Nat} (h : OI o taken came seen recd N) :
    ∃ oz news, fillO 4 o = some (oz, news.map pubP) ∧ OI oz taken (came + news.length) (seenF seen came news) recd (N ++ List.range' came news.length) ∧ oz.fl = o.fl ++ news ∧ (∀ f ∈ news, f.rc = false) ∧ (oz.qu = [] ∨ oz.fl.length = 4) ∧ o.qu = news.map (·.m) ++ oz.qu := by
  obtain ⟨la, fl, qu⟩ := o
  obtain ⟨oz, news, e1, e2, e3, e4, e5, e6, e7, e8, e9⟩ := fill_spec (k := 4) (la := la) (fl := fl) (qu := qu) h.l0 h.l1 h.f4 (by omega) h.nd
  have hlq : qu.length = news.length + oz.qu.length := by rw [e3]; simp
  have h1 : qu.length = taken - came := h.ql
  have h2 : qu.length ≤ 8 := h.q8
  have h3 := h.ct
  have hN : N.length = fl.length := h.hl
  refine ⟨oz, news, e1, ?_, e2, fun f hf => (e4 f hf).1, e8, e3⟩
  refine ⟨by rw [e2]; simp [hN], by omega, fun j f n hf hn => ?_, by rw [e2]; exact e5, ?_, by omega, fun j m hm => ?_, e6, e7, e9, by omega, fun n hn => ?_, fun n hn => ?_, fun n hn => h.rec1 n (by omega)⟩
  · rw [e2] at hf
    by_cases hj : j < fl.length
    · rw [List.getElem?_append_left hj] at hf
      rw [List.getElem?_append_left (by omega)] at hn
      obtain ⟨g1, g2, g3, g5, g6, g7⟩ := h.fl j f n hf hn
      exact ⟨by omega, g2, g3, by unfold seenF; rw [if_pos g1]; exact g5, g6, g7⟩
    · rw [List.getElem?_append_right (by omega)] at hf
      rw [List.getElem?_append_right (by omega), hN] at hn
      obtain ⟨hl, -⟩ := List.getElem?_eq_some_iff.1 hf
      rw [List.getElem?_range' hl] at hn
      injection hn with hn
      obtain ⟨g1, g2, g3⟩ := e4 f (List.mem_of_getElem? hf)
      have hq : qu[j - fl.length]? = some f.m := by rw [e3, List.getElem?_append_left (by simpa using hl), List.getElem?_map, hf]; rfl
      have g4 := h.qu _ _ hq
      have hn2 : n = came + (j - fl.length) := by omega
      refine ⟨by omega, by rw [hn2]; exact g4, ⟨g2, g3⟩, ?_, ?_, fun e => by rw [g1] at e; cases e⟩
      · unfold seenF; rw [if_neg (by omega), show n - came = j - fl.length by omega, hf]
      · rw [g1]; exact h.rec1 n (by omega)
  · rw [List.nodup_append]
    refine ⟨h.ndN, List.nodup_range', fun a ha b hb e => ?_⟩
    obtain ⟨j, hj⟩ := List.mem_iff_getElem?.1 ha
    have hj2 := (List.getElem?_eq_some_iff.1 hj).1
    obtain ⟨f, hf⟩ : ∃ f, fl[j]? = some f := ⟨_, List.getElem?_eq_getElem (by omega)⟩
    have := (h.fl j f a hf hj).1
    rw [List.mem_range'_1] at hb
    omega
  · have hq : qu[news.length + j]? = some m := by rw [e3, List.getElem?_append_right (by simp), List.length_map, Nat.add_sub_cancel_left]; exact hm
    have := h.qu _ _ hq
    rwa [← Nat.add_assoc] at this
  · unfold seenF
    by_cases hc : n < came
    · rw [if_pos hc]; exact h.seen0 n hc
    · rw [if_neg hc]
      obtain ⟨f, hf⟩ : ∃ f, news[n - came]? = some f := ⟨_, List.getElem?_eq_getElem (by omega)⟩
      rw [hf]; exact (e4 f (List.mem_of_getElem? hf)).2.1
  · unfold seenF
    rw [if_neg (by omega), List.getElem?_eq_none (by omega)]
end Go.Proofs.Ytcglmkcefenjcaa
namespace Go.Proofs.Ytcglmkcefenjcaa
open Go.RowKit Go.Lib
/-- What waits for an answer, of a message on its way. -/
def keyF (f : EFl) : EPk := if f.rc = true then relP f.id else pubP f
def strip (p : EPk) : EPk := { p with dup := false }
def WI (o : EO) (wait : List EPk) : Prop := (wait.map strip).Perm (o.fl.map keyF)
theorem strip_pub (f : EFl) : strip (pubP f) = pubP f := rfl
theorem strip_rel (id : Int) : strip (relP id) = relP id := rfl
theorem strip_res (f : EFl) : strip (resP f) = keyF f := by unfold resP keyF; split <;> rfl
theorem strip_pubs (L : List EFl) (h : ∀ f ∈ L, f.rc = false) : (L.map pubP).map strip = L.map keyF := by
  rw [List.map_map]
  refine List.map_congr_left fun f hf => ?_
  show strip (pubP f) = keyF f
  unfold keyF; rw [h f hf]; rfl
theorem find_at : ∀ {L : List EFl} {i : Nat} {f : EFl}, (L.map (·.id)).Nodup → L[i]? = some f → findO L f.id = (i : Int) := by
  intro L i f h hf
  refine fnd_hit ?_ hf (by simp)
  rw [List.all_eq_true]
  intro g hg
  have hn := findO_neg (nodup_take h hf)
  have : g.id ≠ f.id := fun e => hn (e ▸ List.mem_map_of_mem hg)
  simpa using this
theorem perm_erase {α : Type} : ∀ {L : List α} {i : Nat} (h : i < L.length), (L[i] :: L.eraseIdx i).Perm L
  | a :: r, 0, _ => .refl _
  | a :: r, i + 1, h => by
    have h1 := perm_erase (L := r) (i := i) (by simpa using h)
    rw [List.eraseIdx_cons_succ, List.getElem_cons_succ]
    exact (List.Perm.swap _ _ _).trans (h1.cons a)
theorem head_is {o : EO} {q : EPk} {wait : List EPk} (h : WI o (q :: wait)) : ∃ i f, o.fl[i]? = some f ∧ strip q = keyF f ∧ (wait.map strip).Perm ((o.fl.eraseIdx i).map keyF) := by
  unfold WI at h
  rw [List.map_cons] at h
  have hm : strip q ∈ o.fl.map keyF := h.subset (by simp)
  obtain ⟨i, hi, e⟩ := List.getElem_of_mem hm
  rw [List.length_map] at hi
  rw [List.getElem_map] at e
  refine ⟨i, o.fl[i], List.getElem?_eq_getElem hi, e.symm, ?_⟩
  have hp : (o.fl[i] :: o.fl.eraseIdx i).Perm o.fl := perm_erase hi
  have h2 := h.trans (hp.map keyF).symm
  rw [List.map_cons, e] at h2
  exact h2.cons_inv
theorem key_rel {q : EPk} {f : EFl} (h : strip q = keyF f) : ((q.k == 6) = f.rc) ∧ q.id = f.id ∧ (f.rc = false → q.m = f.m) := by
  have hk : q.k = (keyF f).k := by rw [← h]; rfl
  have hi : q.id = (keyF f).id := by rw [← h]; rfl
  have hm : q.m = (keyF f).m := by rw [← h]; rfl
  unfold keyF at hk hi hm
  cases hr : f.rc with
  | true => rw [hr] at hk hi; exact ⟨by rw [hk]; rfl, by rw [hi]; rfl, fun e => nomatch e⟩
  | false => rw [hr] at hk hi hm; exact ⟨by rw [hk]; rfl, by rw [hi]; rfl, fun _ => by rw [hm]; rfl⟩
section
variable {la : Int} {fl : List EFl} {qu : List EMsg} {taken came : Nat} {seen : Nat → Int} {recd : Nat → Bool} {N : List Nat} {i : Nat} {f : EFl}
theorem OI.erase (h : OI ⟨la, fl, qu⟩ taken came seen recd N) (hf : fl[i]? = some f) : OI ⟨la, fl.eraseIdx i, qu⟩ taken came seen recd (N.eraseIdx i) := by
  have hi := (List.getElem?_eq_some_iff.1 hf).1
  have hN : N.length = fl.length := h.hl
  refine ⟨by rw [List.length_eraseIdx, List.length_eraseIdx, hN], h.ct, fun j g n hg hn => ?_, ?_, ?_, h.ql, h.qu, h.l0, h.l1, Nat.le_trans (List.length_eraseIdx_le fl i) h.f4, h.q8, h.seen0, h.seen1, h.rec1⟩
  · rw [List.getElem?_eraseIdx] at hg hn
    by_cases hj : j < i
    · rw [if_pos hj] at hg hn; exact h.fl j g n hg hn
    · rw [if_neg hj] at hg hn; exact h.fl (j + 1) g n hg hn
  · exact h.nd.sublist ((List.eraseIdx_sublist fl i).map _)
  · exact h.ndN.sublist (List.eraseIdx_sublist N i)
/-- What a Comp, an Ack leave. -/
theorem OI.done (h : OI ⟨la, fl, qu⟩ taken came seen recd N) (hf : fl[i]? = some f) (d : EFl → Bool) (hd : d f = true) :
    remE d ⟨la, fl, qu⟩ f.id = 0 ∧ remO d ⟨la, fl, qu⟩ f.id = fillO 4 ⟨la, fl.eraseIdx i, qu⟩ := by
  have hi := find_at h.nd hf
  have he : remE d ⟨la, fl, qu⟩ f.id = 0 := by
    unfold remE
    rw [h.check]
    show (if findO fl f.id < 0 then (3 : Int) else match fl[(findO fl f.id).toNat]? with | some g => if d g = true then 0 else 3 | none => 3) = 0
    rw [hi, if_neg (by omega), Int.toNat_natCast, hf]
    show (if d f = true then (0 : Int) else 3) = 0
    rw [if_pos hd]
  refine ⟨he, ?_⟩
  unfold remO
  rw [he, if_pos rfl]
  show fillO 4 ⟨la, fl.eraseIdx (findO fl f.id).toNat, qu⟩ = _
  rw [hi, Int.toNat_natCast]
def recF (recd : Nat → Bool) (x n : Nat) : Bool := if n = x then true else recd n
theorem OI.recs {x : Nat} (h : OI ⟨la, fl, qu⟩ taken came seen recd N) (hf : fl[i]? = some f) (hq : f.m.q = 2) (hx : N[i]? = some x) :
    rcE ⟨la, fl, qu⟩ f.id = 0 ∧ rcO ⟨la, fl, qu⟩ f.id = some (⟨la, fl.modify i setRc, qu⟩, [relP f.id]) ∧ OI ⟨la, fl.modify i setRc, qu⟩ taken came seen (recF recd x) N := by
  have hi := find_at h.nd hf
  have he : rcE ⟨la, fl, qu⟩ f.id = 0 := by
    unfold rcE
    rw [h.check]
    show (if findO fl f.id < 0 then (3 : Int) else match fl[(findO fl f.id).toNat]? with | some g => if (g.m.q == 2) = true then 0 else 3 | none => 3) = 0
    rw [hi, if_neg (by omega), Int.toNat_natCast, hf]
    show (if (f.m.q == 2) = true then (0 : Int) else 3) = 0
    rw [hq]; rfl
  refine ⟨he, ?_, ?_⟩
  · unfold rcO
    rw [he, if_pos rfl]
    show some ((⟨la, fl.modify (findO fl f.id).toNat setRc, qu⟩ : EO), [relP f.id]) = _
    rw [hi, Int.toNat_natCast]
  have hN : N.length = fl.length := h.hl
  refine ⟨by rw [List.length_modify, hN], h.ct, fun j g n hg hn => ?_, ?_, h.ndN, h.ql, h.qu, h.l0, h.l1, by rw [List.length_modify]; exact h.f4, h.q8, h.seen0, h.seen1, fun n hn => ?_⟩
  · rw [List.getElem?_modify] at hg
    by_cases hj : i = j
    · subst hj
      rw [hf] at hg
      simp at hg
      subst hg
      rw [hx] at hn; injection hn with hn; subst hn
      obtain ⟨g1, g2, g3, g5, g6, g7⟩ := h.fl i f x hf hx
      exact ⟨g1, g2, g3, g5, by unfold recF; rw [if_pos rfl]; rfl, fun _ => hq⟩
    · simp only [if_neg hj] at hg
      have hg2 : fl[j]? = some g := by simpa using hg
      obtain ⟨g1, g2, g3, g5, g6, g7⟩ := h.fl j g n hg2 hn
      refine ⟨g1, g2, g3, g5, ?_, g7⟩
      unfold recF
      rw [if_neg (fun e => ?_)]
      · exact g6
      · subst e
        obtain ⟨a1, b1⟩ := List.getElem?_eq_some_iff.1 hx
        obtain ⟨a2, b2⟩ := List.getElem?_eq_some_iff.1 hn
        exact hj ((List.getElem_inj h.ndN).1 (b1.trans b2.symm))
  · have e : (fl.modify i setRc).map (fun (g : EFl) => g.id) = fl.map (fun (g : EFl) => g.id) := by
      refine List.ext_getElem? fun j => ?_
      rw [List.getElem?_map, List.getElem?_map, List.getElem?_modify]
      cases fl[j]? with
      | none => rfl
      | some g => by_cases hj : i = j <;> simp [hj, setRc]
    show ((fl.modify i setRc).map (fun (g : EFl) => g.id)).Nodup
    rw [e]; exact h.nd
  · unfold recF
    have := (h.fl i f x hf hx).1
    rw [if_neg (by omega)]; exact h.rec1 n hn
end
/-! a weight that each answer makes less by one -/
def wF (f : EFl) : Nat := if f.rc = true then 1 else if f.m.q = 2 then 2 else 1
def wM (m : EMsg) : Nat := if m.q = 2 then 2 else 1
def wO (o : EO) : Nat := (o.fl.map wF).sum + (o.qu.map wM).sum
theorem wF_new {L : List EFl} (h : ∀ f ∈ L, f.rc = false) : (L.map wF).sum = ((L.map (·.m)).map wM).sum := by
  rw [List.map_map]
  congr 1
  refine List.map_congr_left fun f hf => ?_
  show wF f = wM f.m
  unfold wF wM; rw [h f hf]; rfl
theorem wO_fill {o oz : EO} {news : List EFl} (h1 : oz.fl = o.fl ++ news) (h2 : o.qu = news.map (·.m) ++ oz.qu) (h3 : ∀ f ∈ news, f.rc = false) : wO oz = wO o := by
  unfold wO
  rw [h1, h2, List.map_append, List.sum_append, List.map_append, List.sum_append, wF_new h3]
  omega
theorem wF_erase : ∀ {L : List EFl} {i : Nat} {f : EFl}, L[i]? = some f → ((L.eraseIdx i).map wF).sum + wF f = (L.map wF).sum
  | g :: r, 0, f, h => by simp at h; subst h; simp; omega
  | g :: r, i + 1, f, h => by
    have := wF_erase (L := r) (i := i) (f := f) (by simpa using h)
    simp only [List.eraseIdx_cons_succ, List.map_cons, List.sum_cons]; omega
theorem wF_rc : ∀ {L : List EFl} {i : Nat} {f : EFl}, L[i]? = some f → ((L.modify i setRc).map wF).sum + wF f = (L.map wF).sum + 1
  | g :: r, 0, f, h => by simp at h; subst h; simp [setRc, wF]; omega
  | g :: r, i + 1, f, h => by
    have := wF_rc (L := r) (i := i) (f := f) (by simpa using h)
    simp only [List.modify_succ_cons, List.map_cons, List.sum_cons]; omega
theorem WI.fill {o oz : EO} {news : List EFl} {wait : List EPk} (h : (wait.map strip).Perm (o.fl.map keyF)) (h1 : oz.fl = o.fl ++ news) (h3 : ∀ f ∈ news, f.rc = false) : WI oz (wait ++ news.map pubP) := by
  unfold WI
  rw [List.map_append, h1, List.map_append, strip_pubs news h3]
  exact h.append_right _
theorem key_rc {L : List EFl} {i : Nat} {f : EFl} (hf : L[i]? = some f) : (((L.eraseIdx i).map keyF) ++ [relP f.id]).Perm ((L.modify i setRc).map keyF) := by
  have hi := (List.getElem?_eq_some_iff.1 hf).1
  have e : (L.modify i setRc).eraseIdx i = L.eraseIdx i := by
    refine List.ext_getElem? fun j => ?_
    rw [List.getElem?_eraseIdx, List.getElem?_eraseIdx]
    split
    · rw [List.getElem?_modify_ne _ _ (by omega)]
    · rw [List.getElem?_modify_ne _ _ (by omega)]
  have hp := perm_erase (L := L.modify i setRc) (i := i) (by rw [List.length_modify]; exact hi)
  have hg : (L.modify i setRc)[i]'(by rw [List.length_modify]; exact hi) = setRc f := by
    have : (L.modify i setRc)[i]? = some (setRc f) := by rw [List.getElem?_modify_eq, hf]; rfl
    exact (List.getElem?_eq_some_iff.1 this).2
  rw [hg, e] at hp
  refine List.Perm.trans ?_ (hp.map keyF)
  rw [List.map_cons]
  exact List.perm_append_singleton _ _
end Go.Proofs.Ytcglmkcefenjcaa
namespace Go.Proofs.Ytcglmkcefenjcaa
open Go.RowKit Go.Lib
section
variable {la : Int} {fl : List EFl} {qu : List EMsg} {taken came : Nat} {seen : Nat → Int} {recd : Nat → Bool} {N : List Nat} {m : EMsg}
theorem OI.put (h : OI ⟨la, fl, qu⟩ taken came seen recd N) (hm : isMsg m taken) (h8 : qu.length < 8) : OI ⟨la, fl, qu ++ [m]⟩ (taken + 1) came seen recd N := by
  have h1 : qu.length = taken - came := h.ql
  have h2 := h.ct
  refine ⟨h.hl, by omega, h.fl, h.nd, h.ndN, by rw [List.length_append, List.length_singleton]; omega, fun j x hx => ?_, h.l0, h.l1, h.f4, by rw [List.length_append, List.length_singleton]; omega, h.seen0, h.seen1, h.rec1⟩
  by_cases hj : j < qu.length
  · rw [List.getElem?_append_left hj] at hx; exact h.qu j x hx
  · rw [List.getElem?_append_right (by omega)] at hx
    have hj2 : j = qu.length := by
      have := (List.getElem?_eq_some_iff.1 hx).1
      rw [List.length_singleton] at this; omega
    subst hj2
    rw [Nat.sub_self] at hx
    simp at hx; subst hx
    rw [show came + qu.length = taken by omega]; exact hm
/-- An offer that is taken. -/
theorem OI.offer0 (h : OI ⟨la, fl, qu⟩ taken came seen recd N) (hm : isMsg m taken) (up : Bool) (hmax : up = true → qu = [] ∨ fl.length = 4) (hE : offE ⟨la, fl, qu⟩ m up ≠ 5) : qu.length < 8 ∧ offE ⟨la, fl, qu⟩ m up = 0 := by
  have h8 : qu.length ≤ 8 := h.q8
  have hu : offE ⟨la, fl, qu⟩ m up = if (((qu.length : Nat) : Int) == 8) && (!up || (((fl.length : Nat) : Int) == 4)) then 5 else 0 := by
    unfold offE; rw [h.check, hm.va]; rfl
  rw [hu] at hE ⊢
  by_cases hb : ((((qu.length : Nat) : Int) == 8) && (!up || (((fl.length : Nat) : Int) == 4))) = true
  · rw [if_pos hb] at hE; exact absurd rfl hE
  · rw [if_neg hb]
    refine ⟨?_, rfl⟩
    by_cases h9 : qu.length = 8
    · exfalso
      apply hb
      rw [h9]
      cases up with
      | false => rfl
      | true =>
        rcases hmax rfl with h0 | h0
        · rw [h0] at h9; cases h9
        · rw [h0]; rfl
    · omega
/-- One who is back: the packets of those on their way; then new ones. -/
theorem WI.back {oz : EO} {news : List EFl} (h1 : oz.fl = fl ++ news) (h3 : ∀ f ∈ news, f.rc = false) : WI oz (fl.map resP ++ news.map pubP) := by
  unfold WI
  rw [List.map_append, h1, List.map_append, strip_pubs news h3, List.map_map]
  have : fl.map (strip ∘ resP) = fl.map keyF := List.map_congr_left fun f _ => strip_res f
  rw [this]
theorem OI.back {oz : EO} {news : List EFl} (h : OI ⟨la, fl, qu⟩ taken came seen recd N) (hf : fillO 4 ⟨la, fl, qu⟩ = some (oz, news.map pubP)) : resO ⟨la, fl, qu⟩ = some (oz, fl.map resP ++ news.map pubP) ∧ ckI ⟨la, fl, qu⟩ = 0 := by
  refine ⟨?_, by unfold ckI; rw [h.check]; rfl⟩
  unfold resO
  rw [h.check, if_pos rfl, hf]
end
/-- Where nothing waits, nothing is on its way. -/
theorem WI.none {o : EO} (h : WI o []) : o.fl = [] := by
  unfold WI at h
  have := h.length_eq
  simp at this
  exact List.eq_nil_of_length_eq_zero this.symm
end Go.Proofs.Ytcglmkcefenjcaa
namespace Go.Proofs.Ytcglmkcefenjcaa
open Go.RowKit Go.Lib
theorem idxS (q n : Nat) (h : n < 65) (w : World) : (Instr.indexAt 84 (.pointer (some ⟨q, 0, none⟩)) (.int .i64 (n : Int))).run Try.prog w = .ok (.pointer (some ⟨q, n, none⟩)) w := by
  have h2 : ¬ 65 ≤ n := by omega
  simp [go_sem, Instr.indexAt, h2]
theorem idxR5 (q n : Nat) (h : n < 65) (w : World) : (Instr.indexAt 85 (.pointer (some ⟨q, 0, none⟩)) (.int .i64 (n : Int))).run Try.prog w = .ok (.pointer (some ⟨q, n, none⟩)) w := by
  have h2 : ¬ 65 ≤ n := by omega
  simp [go_sem, Instr.indexAt, h2]
theorem pay_at (n : Nat) (w : World) : (Instr.index 9 (.string (pay n)) (.int .i64 0)).run Try.prog w = .ok (.int .u8 ((UInt8.ofNat (33 + n)).toNat : Int)) w := by
  have h : (pay n)[0]? = some (UInt8.ofNat (33 + n)) := rfl
  simp [go_sem, Instr.index, h]
theorem pay_num (n : Nat) (h : n < 64) : ((UInt8.ofNat (33 + n)).toNat : Int) = 33 + (n : Int) := by
  rw [UInt8.toNat_ofNat']
  omega
theorem cv83 (x : Int) (w : World) : (convert 5 3 (.int .u8 x)).run Try.prog w = .ok (.int .i64 (IntKind.i64.wrap x)) w := by
  simp [go_sem, convert]
theorem cv38 (n : Nat) (h : n < 64) (w : World) : (convert 3 5 (.int .i64 (33 + (n : Int)))).run Try.prog w = .ok (.int .u8 (33 + (n : Int))) w := by
  have : IntKind.u8.wrap (33 + (n : Int)) = 33 + (n : Int) := by rw [IntKind.wrap_u8]; omega
  simp [go_sem, convert, this]
theorem conv_pay {n q : Nat} {W : World} (h : n < 64) (r : RowAt W q [.int .u8 (33 + (n : Int))]) : (convert 29 9 (.slice (some ⟨q, 0, none⟩) 1 1)).run Try.prog W = .ok (.string (pay n)) W := by
  refine run_convert_whole W 29 5 9 Try.underlying29 Try.underlying5 Try.underlying9 q 0 (pay n) ?_ 1
  intro j hj
  have hj0 : j = 0 := by have : (pay n).size = 1 := rfl; omega
  subst hj0
  have := r.1 0 _ rfl
  rw [← pay_num n h] at this
  have e : (pay n)[0]'hj = UInt8.ofNat (33 + n) := rfl
  rw [e]
  exact this
end Go.Proofs.Ytcglmkcefenjcaa
namespace Go.Proofs.Ytcglmkcefenjcaa
open Go.RowKit Go.Lib
section
variable {la : Int} {fl : List EFl} {qu : List EMsg} {taken came : Nat} {seen : Nat → Int} {recd : Nat → Bool} {N : List Nat}
/-- A packet for one who is back. -/
theorem OI.again (h : OI ⟨la, fl, qu⟩ taken came seen recd N) {k : Nat} {p : EPk} (hp : (fl.map resP)[k]? = some p) :
    p.k = 6 ∨ (p.k = 3 ∧ p.dup = true ∧ ∃ n, p.m.p = pay n ∧ n < came ∧ recd n = false ∧ seen n = p.id ∧ 1 ≤ p.id) := by
  rw [List.getElem?_map] at hp
  obtain ⟨f, hf, rfl⟩ := Option.map_eq_some_iff.1 hp
  have hk := (List.getElem?_eq_some_iff.1 hf).1
  have hN : N.length = fl.length := h.hl
  obtain ⟨n, hn⟩ : ∃ n, N[k]? = some n := ⟨_, List.getElem?_eq_getElem (by omega)⟩
  obtain ⟨g1, ⟨-, g2, -⟩, ⟨g3, g4⟩, g5, g6, g7⟩ := h.fl k f n hf hn
  unfold resP
  cases hr : f.rc with
  | true => exact .inl rfl
  | false => exact .inr ⟨rfl, rfl, n, g2, g1, by rw [g6, hr], g5, g3⟩
/-- A packet that is new. -/
theorem OI.new {oz : EO} {news : List EFl} (h : OI oz taken (came + news.length) (seenF seen came news) recd (N ++ List.range' came news.length)) (hfl : oz.fl = fl ++ news) (hN : N.length = fl.length) {j : Nat} {f : EFl} (hj : news[j]? = some f) (hrc : f.rc = false) :
    f.m.p = pay (came + j) ∧ came + j < taken ∧ recd (came + j) = false ∧ seenF seen came (news.take j) (came + j) = 0 ∧ 1 ≤ f.id ∧ ∀ n, seenF seen came (news.take (j + 1)) n = if n = came + j then f.id else seenF seen came (news.take j) n := by
  have hjl := (List.getElem?_eq_some_iff.1 hj).1
  have h1 : oz.fl[fl.length + j]? = some f := by rw [hfl, List.getElem?_append_right (by omega), Nat.add_sub_cancel_left]; exact hj
  have h2 : (N ++ List.range' came news.length)[fl.length + j]? = some (came + j) := by
    rw [List.getElem?_append_right (by omega), hN, Nat.add_sub_cancel_left, List.getElem?_range' hjl]; simp
  obtain ⟨g1, ⟨-, g2, -⟩, ⟨g3, g4⟩, g5, g6, g7⟩ := h.fl _ f _ h1 h2
  have hct := h.ct
  refine ⟨g2, by omega, by rw [g6, hrc], ?_, g3, fun n => ?_⟩
  · unfold seenF
    rw [if_neg (by omega), Nat.add_sub_cancel_left, List.getElem?_eq_none (by rw [List.length_take]; omega)]
  · unfold seenF
    by_cases hn : n < came
    · rw [if_pos hn, if_neg (by omega), if_pos hn]
    · rw [if_neg hn]
      by_cases he : n = came + j
      · subst he
        rw [if_pos rfl, Nat.add_sub_cancel_left, List.getElem?_take, if_pos (by omega), hj]
      · rw [if_neg he, if_neg hn, List.getElem?_take, List.getElem?_take]
        by_cases h3 : n - came < j
        · rw [if_pos h3, if_pos (by omega)]
        · rw [if_neg h3, if_neg (by omega)]
theorem seenF_nil (hs : ∀ n, came ≤ n → seen n = 0) (n : Nat) : seenF seen came [] n = seen n := by
  unfold seenF
  by_cases hn : n < came
  · rw [if_pos hn]
  · rw [if_neg hn, hs n (by omega)]; rfl
/-- The weight of what there is. -/
theorem sum_le {α : Type} (w : α → Nat) (hw : ∀ x, w x ≤ 2) : ∀ L : List α, (L.map w).sum ≤ 2 * L.length
  | [] => Nat.le_refl _
  | x :: r => by
    have h1 := sum_le w hw r
    have h2 := hw x
    rw [List.map_cons, List.sum_cons, List.length_cons]; omega
theorem OI.weight {o : EO} (h : OI o taken came seen recd N) : wO o ≤ 24 := by
  have h1 := sum_le wF (fun f => by unfold wF; split; omega; split <;> omega) o.fl
  have h2 := sum_le wM (fun m => by unfold wM; split <;> omega) o.qu
  have h3 := h.f4
  have h4 := h.q8
  unfold wO; omega
theorem wF_pos (f : EFl) : 1 ≤ wF f := by unfold wF; split; omega; split <;> omega
/-- Where something waits, there is weight. -/
theorem WI.pos {o : EO} {q : EPk} {wait : List EPk} (h : WI o (q :: wait)) : 1 ≤ wO o := by
  obtain ⟨i, f, hf, -, -⟩ := head_is h
  have h1 := wF_erase hf
  have h2 := wF_pos f
  unfold wO; omega
end
end Go.Proofs.Ytcglmkcefenjcaa
namespace Go.Proofs.Ytcglmkcefenjcaa
open Go.RowKit Go.Lib
/-- What holds between the acts. -/
structure SI (up : Bool) (L : List EPk) (o : EO) (taken came : Nat) (seen : Nat → Int) (recd : Nat → Bool) (N : List Nat) : Prop where
  oi : OI o taken came seen recd N
  wi : up = true → WI o L
  mx : up = true → o.qu = [] ∨ o.fl.length = 4
  nl : up = false → L = []
/-- One packet that is sent: what is seen ahead of it, and behind. -/
def PkS (taken : Nat) (recd : Nat → Bool) (p : EPk) (c : Nat) (s : Nat → Int) (c' : Nat) (s' : Nat → Int) : Prop :=
  (p.k = 6 ∧ c' = c ∧ s' = s) ∨ (p.k = 3 ∧ ∃ n, p.m.p = pay n ∧ n < taken ∧ recd n = false ∧ 1 ≤ p.id ∧
    ((p.dup = true ∧ s n = p.id ∧ n < c ∧ c' = c ∧ s' = s) ∨ (p.dup = false ∧ s n = 0 ∧ n = c ∧ c' = c + 1 ∧ s' = fun m => if m = n then p.id else s m)))
/-- What an act sends. -/
structure SentS (taken : Nat) (recd : Nat → Bool) (ps : List EPk) (C : Nat → Nat) (S : Nat → Nat → Int) : Prop where
  le : ps.length ≤ 8
  st : ∀ k p, ps[k]? = some p → PkS taken recd p (C k) (S k) (C (k + 1)) (S (k + 1))
/-- An act: what is behind it. -/
structure ActS (up : Bool) (L : List EPk) (o : EO) (ps : List EPk) (taken : Nat) (recd : Nat → Bool) (N : List Nat) (C : Nat → Nat) (S : Nat → Nat → Int) : Prop where
  sent : SentS taken recd ps C S
  si : SI up (L ++ ps) o taken (C ps.length) (S ps.length) recd N
section
variable {up : Bool} {la : Int} {fl : List EFl} {qu : List EMsg} {taken came : Nat} {seen : Nat → Int} {recd : Nat → Bool} {N : List Nat} {L : List EPk} {m : EMsg} {o : EO}
theorem SI.start : SI true [] o0 0 0 (fun _ => 0) (fun _ => false) [] := ⟨OI.start, fun _ => .refl _, fun _ => .inl rfl, fun h => (nomatch h)⟩
theorem ActS.check {ps : List EPk} {C : Nat → Nat} {S : Nat → Nat → Int} (h : ActS up L o ps taken recd N C S) : checkO o = true := h.si.oi.check
theorem OI.small (h : OI o taken came seen recd N) : o.fl.length ≤ 100000 ∧ o.qu.length ≤ 100000 := ⟨Nat.le_trans h.f4 (by decide), Nat.le_trans h.q8 (by decide)⟩
/-- Old ones, then new ones. -/
theorem act_of {oz : EO} {news : List EFl} {P0 : List EPk} (hup : up = true) (h : OI ⟨la, fl, qu⟩ taken came seen recd N) (hP : P0.length ≤ 4) (hP0 : ∀ (k : Nat) (p : EPk), P0[k]? = some p → PkS taken recd p came seen came seen)
    (hz : OI oz taken (came + news.length) (seenF seen came news) recd (N ++ List.range' came news.length)) (hfl : oz.fl = fl ++ news) (hrc : ∀ f ∈ news, f.rc = false) (hmx : oz.qu = [] ∨ oz.fl.length = 4) (hW : WI oz (L ++ (P0 ++ news.map pubP))) :
    ActS up L oz (P0 ++ news.map pubP) taken recd (N ++ List.range' came news.length) (fun k => came + (k - P0.length)) (fun k => seenF seen came (news.take (k - P0.length))) := by
  have hnil : seenF seen came [] = seen := funext fun n => seenF_nil h.seen1 n
  have hl : news.length ≤ 4 := by have := hz.f4; rw [hfl, List.length_append] at this; omega
  have hlen : (P0 ++ news.map pubP).length = P0.length + news.length := by rw [List.length_append, List.length_map]
  refine ⟨⟨by rw [hlen]; omega, fun k p hk => ?_⟩, ⟨?_, fun _ => hW, fun _ => hmx, fun e => by rw [hup] at e; cases e⟩⟩
  · by_cases hlt : k < P0.length
    · rw [List.getElem?_append_left hlt] at hk
      have := hP0 k p hk
      rw [show k - P0.length = 0 by omega, show k + 1 - P0.length = 0 by omega, List.take_zero, hnil]
      exact this
    · rw [List.getElem?_append_right (by omega), List.getElem?_map] at hk
      obtain ⟨f, hf, rfl⟩ := Option.map_eq_some_iff.1 hk
      have hr := hrc f (List.mem_of_getElem? hf)
      obtain ⟨g1, g2, g3, g4, g5, g6⟩ := OI.new hz hfl h.hl hf hr
      refine .inr ⟨rfl, came + (k - P0.length), g1, g2, g3, g5, .inr ⟨rfl, g4, rfl, by omega, ?_⟩⟩
      rw [show k + 1 - P0.length = (k - P0.length) + 1 by omega]
      exact funext g6
  · rw [hlen, Nat.add_sub_cancel_left, List.take_length]
    exact hz
/-- An offer. -/
theorem SI.offer (h : SI up L o taken came seen recd N) (hm : isMsg m taken) (hE : offE o m up ≠ 5) :
    offE o m up = 0 ∧ ∃ oz ps N' C S, offO o m up = some (oz, ps) ∧ C 0 = came ∧ S 0 = seen ∧ ActS up L oz ps (taken + 1) recd N' C S := by
  obtain ⟨la, fl, qu⟩ := o
  obtain ⟨h8, h0⟩ := OI.offer0 h.oi hm up h.mx hE
  have hp := OI.put h.oi hm h8
  have hnil : seenF seen came [] = seen := funext fun n => seenF_nil h.oi.seen1 n
  refine ⟨h0, ?_⟩
  cases hup : up with
  | false =>
    refine ⟨⟨la, fl, qu ++ [m]⟩, [], N, fun _ => came, fun _ => seen, ?_, rfl, rfl, ⟨⟨Nat.zero_le _, fun k p hk => by simp at hk⟩, ⟨hp, fun e => (nomatch e), fun e => (nomatch e), fun _ => by subst hup; rw [h.nl rfl]; rfl⟩⟩⟩
    subst hup
    unfold offO; rw [if_pos h0]; rfl
  | true =>
    subst hup
    obtain ⟨oz, news, e1, e2, e3, e4, e5, e6⟩ := OI.fill hp
    refine ⟨oz, [] ++ news.map pubP, _, _, _, ?_, ?_, ?_, act_of (P0 := []) (L := L) rfl hp (Nat.zero_le _) (fun k p hk => by simp at hk) e2 e3 e4 e5 (by have := WI.fill (h.wi rfl) e3 e4; simpa using this)⟩
    · unfold offO; rw [if_pos h0]; exact e1
    · simp
    · simp [hnil]
/-- One who is back. -/
theorem SI.resume (h : SI false L o taken came seen recd N) :
    ckI o = 0 ∧ ∃ oz ps N' C S, resO o = some (oz, ps) ∧ C 0 = came ∧ S 0 = seen ∧ ActS true [] oz ps taken recd N' C S := by
  obtain ⟨la, fl, qu⟩ := o
  have hnil : seenF seen came [] = seen := funext fun n => seenF_nil h.oi.seen1 n
  obtain ⟨oz, news, e1, e2, e3, e4, e5, e6⟩ := OI.fill h.oi
  obtain ⟨r1, r2⟩ := OI.back h.oi e1
  refine ⟨r2, oz, fl.map resP ++ news.map pubP, _, _, _, r1, ?_, ?_, act_of (P0 := fl.map resP) (L := []) rfl h.oi (by rw [List.length_map]; exact h.oi.f4) (fun k p hk => ?_) e2 e3 e4 e5 (WI.back e3 e4)⟩
  · simp
  · simp [hnil]
  · rcases OI.again h.oi hk with g | ⟨g1, g2, n, g3, g4, g5, g6, g7⟩
    · exact .inl ⟨g, rfl, rfl⟩
    · exact .inr ⟨g1, n, g3, Nat.lt_of_lt_of_le g4 h.oi.ct, g5, g7, .inl ⟨g2, g6, g4, rfl, rfl⟩⟩
/-- No packet is a double. -/
def NoDup (ps : List EPk) : Prop := ∀ p ∈ ps, p.k = 3 → p.dup = false
theorem noDup_news (news : List EFl) : NoDup (news.map pubP) := fun p hp _ => by
  obtain ⟨f, -, rfl⟩ := List.mem_map.1 hp
  rfl
/-- An answer: of whom. -/
theorem SI.head {q : EPk} (h : SI true (q :: L) o taken came seen recd N) : q.k = 6 ∨ (q.k = 3 ∧ (q.m.q = 1 ∨ q.m.q = 2) ∧ ∃ x, q.m.p = pay x ∧ x < came) := by
  obtain ⟨i, f, hf, hq, -⟩ := head_is (h.wi rfl)
  obtain ⟨k1, k2, k3⟩ := key_rel hq
  have hi := (List.getElem?_eq_some_iff.1 hf).1
  obtain ⟨n, hn⟩ : ∃ n, N[i]? = some n := ⟨_, List.getElem?_eq_getElem (by rw [h.oi.hl]; exact hi)⟩
  obtain ⟨g1, ⟨g2, g3, g4⟩, -⟩ := h.oi.fl i f n hf hn
  cases hr : f.rc with
  | true => rw [hr] at k1; exact .inl (by simpa using k1)
  | false =>
    have hk : q.k = (keyF f).k := by rw [← hq]; rfl
    refine .inr ⟨by rw [hk]; unfold keyF; rw [hr]; rfl, by rw [k3 hr]; exact g4, n, by rw [k3 hr]; exact g3, g1⟩
theorem SI.done {q : EPk} (h : SI true (q :: L) o taken came seen recd N) (d : EFl → Bool) (hd : ∀ f : EFl, strip q = keyF f → (f.m.q = 1 ∨ f.m.q = 2) → d f = true) :
    remE d o q.id = 0 ∧ ∃ oz ps N' C S, remO d o q.id = some (oz, ps) ∧ C 0 = came ∧ S 0 = seen ∧ ActS true L oz ps taken recd N' C S ∧ NoDup ps ∧ wO oz + 1 ≤ wO o := by
  obtain ⟨la, fl, qu⟩ := o
  have hnil : seenF seen came [] = seen := funext fun n => seenF_nil h.oi.seen1 n
  obtain ⟨i, f, hf, hq, hP⟩ := head_is (h.wi rfl)
  obtain ⟨k1, k2, k3⟩ := key_rel hq
  have hi := (List.getElem?_eq_some_iff.1 hf).1
  obtain ⟨n, hn⟩ : ∃ n, N[i]? = some n := ⟨_, List.getElem?_eq_getElem (by rw [h.oi.hl]; exact hi)⟩
  obtain ⟨g1, ⟨g2, g3, g4⟩, -⟩ := h.oi.fl i f n hf hn
  obtain ⟨r1, r2⟩ := OI.done h.oi hf d (hd f hq g4)
  have he := OI.erase h.oi hf
  obtain ⟨oz, news, e1, e2, e3, e4, e5, e6⟩ := OI.fill he
  rw [k2]
  refine ⟨r1, oz, [] ++ news.map pubP, _, _, _, by rw [r2]; exact e1, ?_, ?_, act_of (P0 := []) (L := L) rfl he (Nat.zero_le _) (fun k p hk => by simp at hk) e2 e3 e4 e5 (by have := WI.fill hP e3 e4; simpa using this), ?_, ?_⟩
  · simp
  · simp [hnil]
  · simpa using noDup_news news
  · have h1 := wO_fill e3 e6 e4
    have h2 : ((fl.eraseIdx i).map wF).sum + wF f = (fl.map wF).sum := wF_erase hf
    have h3 := wF_pos f
    rw [h1]
    unfold wO
    show (((fl.eraseIdx i).map wF).sum + (qu.map wM).sum) + 1 ≤ (fl.map wF).sum + (qu.map wM).sum
    omega
theorem SI.comp {q : EPk} (h : SI true (q :: L) o taken came seen recd N) (hk : q.k = 6) :
    remE dComp o q.id = 0 ∧ ∃ oz ps N' C S, remO dComp o q.id = some (oz, ps) ∧ C 0 = came ∧ S 0 = seen ∧ ActS true L oz ps taken recd N' C S ∧ NoDup ps ∧ wO oz + 1 ≤ wO o :=
  h.done dComp fun f hq _ => by
    have := (key_rel hq).1
    unfold dComp
    rw [← this, hk]; rfl
theorem SI.ack {q : EPk} (h : SI true (q :: L) o taken came seen recd N) (hk : q.k ≠ 6) (h1 : q.m.q = 1) :
    remE dAck o q.id = 0 ∧ ∃ oz ps N' C S, remO dAck o q.id = some (oz, ps) ∧ C 0 = came ∧ S 0 = seen ∧ ActS true L oz ps taken recd N' C S ∧ NoDup ps ∧ wO oz + 1 ≤ wO o :=
  h.done dAck fun f hq _ => by
    obtain ⟨k1, k2, k3⟩ := key_rel hq
    have hr : f.rc = false := by
      rw [← k1]
      exact beq_eq_false_iff_ne.2 hk
    unfold dAck
    rw [← k3 hr, h1]; rfl
theorem SI.recv {q : EPk} {x : Nat} (h : SI true (q :: L) o taken came seen recd N) (hk : q.k ≠ 6) (h1 : q.m.q ≠ 1) (hx : q.m.p = pay x) (hx64 : x < 64) (ht : taken < 64) :
    rcE o q.id = 0 ∧ ∃ oz ps N' C S, rcO o q.id = some (oz, ps) ∧ C 0 = came ∧ S 0 = seen ∧ ActS true L oz ps taken (recF recd x) N' C S ∧ NoDup ps ∧ wO oz + 1 ≤ wO o := by
  obtain ⟨la, fl, qu⟩ := o
  obtain ⟨i, f, hf, hq, hP⟩ := head_is (h.wi rfl)
  obtain ⟨k1, k2, k3⟩ := key_rel hq
  have hr : f.rc = false := by
    rw [← k1]
    exact beq_eq_false_iff_ne.2 hk
  have hi := (List.getElem?_eq_some_iff.1 hf).1
  obtain ⟨n, hn⟩ : ∃ n, N[i]? = some n := ⟨_, List.getElem?_eq_getElem (by rw [h.oi.hl]; exact hi)⟩
  obtain ⟨g1, ⟨g2, g3, g4⟩, -⟩ := h.oi.fl i f n hf hn
  have hq2 : f.m.q = 2 := by
    rw [k3 hr] at h1
    exact g4.resolve_left h1
  have hnx : n = x := by
    have e : pay n = pay x := by rw [← g3, ← k3 hr, hx]
    have hn64 : n < 64 := by have := h.oi.ct; omega
    have e2 := pay_num n hn64
    have e3 := pay_num x hx64
    unfold pay at e
    injection e with e
    have e4 : UInt8.ofNat (33 + n) = UInt8.ofNat (33 + x) := by simpa using e
    rw [e4] at e2
    omega
  subst hnx
  obtain ⟨r1, r2, r3⟩ := OI.recs h.oi hf hq2 hn
  rw [k2]
  refine ⟨r1, _, _, N, fun _ => came, fun _ => seen, r2, rfl, rfl, ⟨⟨by simp, fun k p hk => ?_⟩, ⟨r3, fun _ => ?_, fun _ => ?_, fun e => (nomatch e)⟩⟩, fun p hp h3 => ?_, ?_⟩
  · match k, hk with
    | 0, hk => simp at hk; subst hk; exact .inl ⟨rfl, rfl, rfl⟩
    | k + 1, hk => simp at hk
  · unfold WI
    rw [List.map_append]
    refine (hP.append_right _).trans ?_
    exact key_rc hf
  · have := h.mx rfl
    rw [List.length_modify]; exact this
  · simp at hp; subst hp; cases h3
  · have h2 : ((fl.modify i setRc).map wF).sum + wF f = (fl.map wF).sum + 1 := wF_rc hf
    have h3 : wF f = 2 := by unfold wF; rw [hr]; simp [hq2]
    unfold wO
    show (((fl.modify i setRc).map wF).sum + (qu.map wM).sum) + 1 ≤ (fl.map wF).sum + (qu.map wM).sum
    omega
/-- The end. -/
theorem SI.none (h : SI true [] o taken came seen recd N) : o.fl = [] ∧ o.qu = [] ∧ came = taken := by
  have h1 := WI.none (h.wi rfl)
  have h2 := h.mx rfl
  have h3 : o.qu = [] := by
    rcases h2 with h2 | h2
    · exact h2
    · rw [h1] at h2; cases h2
  have h4 := h.oi.ql
  have h5 := h.oi.ct
  rw [h3] at h4
  exact ⟨h1, h3, by simp at h4; omega⟩
theorem SI.room (h : SI true L o taken came seen recd N) : L.length ≤ 4 := by
  have h1 := (h.wi rfl).length_eq
  rw [List.length_map, List.length_map] at h1
  have := h.oi.f4
  omega
theorem SI.pos {q : EPk} (h : SI true (q :: L) o taken came seen recd N) : 1 ≤ wO o := WI.pos (h.wi rfl)
theorem SI.weight (h : SI up L o taken came seen recd N) : wO o ≤ 24 := h.oi.weight
end
end Go.Proofs.Ytcglmkcefenjcaa
