/-
  Packets: ip.Parse and kioskref7.ParsePacket of any bytes: one contract each.
-/
import Derived.Test.YtgaimpopcehabaaIpL
import Derived.Test.YtgaimpopcehabaaSumF
namespace Go.Proofs.Ytgaimpopcehabaa
open Go.RowKit
def pkN (l : List UInt8) : Nat := 4 * ((l[0]?.getD 0).toNat % 16)
/-- What is wrong with bytes; 0: they are a packet's. -/
def pkE (l : List UInt8) : Int := if l.length < 20 then 7 else if (l[0]?.getD 0).toNat / 16 ≠ 4 ∨ pkN l < 20 then 1 else lateE l.length (pkN l) (ofv ((l.drop 2).take 2)) (65535 - sumv 0 (l.take (pkN l))) (ofv ((l.drop 6).take 2))
def pkG (l : List UInt8) : Pk := pkOf l (pkN l) (ofv ((l.drop 2).take 2)).toNat (l[8]?.getD 0) (l[9]?.getD 0)
/-- The packet that bytes are; none: the empty one. -/
def pkP (l : List UInt8) : Pk := if pkE l = 0 then pkG l else ⟨0, 0, 0, 0, 0, []⟩
theorem pkP_len (l : List UInt8) : (pkP l).data.length ≤ l.length := by
  unfold pkP; split
  · simp only [pkG, pkOf, List.length_take, List.length_drop]; omega
  · simp
theorem parse10_any (v : Value) (l : List UInt8) (w : World) (hl : l.length ≤ 1000000) (hv : Sl w v l) :
    Calls Try.prog 32 #[v] w fun e w' => ∃ v', e = .returned (.tuple #[.agg #[.int .i64 (pkP l).src, .int .i64 (pkP l).dst, .int .i64 (pkP l).proto, .int .i64 (pkP l).ttl, .int .i64 (pkP l).id, v'], .int .i64 (pkE l)]) ∧ Below w.heap.size w w' ∧ w'.ownsRow w.heap.size 5 1 v' (pkP l).data.length ((pkP l).data.map B8) := by
  by_cases h20 : l.length < 20
  · have hE : pkE l = 7 := by unfold pkE; rw [if_pos h20]
    have hP : pkP l = ⟨0, 0, 0, 0, 0, []⟩ := by unfold pkP; rw [hE]; rfl
    rw [hE, hP]
    refine (ipParse_short v l w h20 hv).mono ?_
    rintro e w' ⟨rfl, hb⟩
    exact ⟨_, rfl, hb, World.ownsRow_nil _ _ _ _⟩
  · obtain ⟨x, hx⟩ : ∃ x, l[0]? = some x := ⟨_, List.getElem?_eq_getElem (by omega)⟩
    obtain ⟨x8, hx8⟩ : ∃ x, l[8]? = some x := ⟨_, List.getElem?_eq_getElem (by omega)⟩
    obtain ⟨x9, hx9⟩ : ∃ x, l[9]? = some x := ⟨_, List.getElem?_eq_getElem (by omega)⟩
    have hg : l[0]?.getD 0 = x := by rw [hx]; rfl
    have hN : pkN l = 4 * (x.toNat % 16) := by unfold pkN; rw [hg]
    by_cases hf : x.toNat / 16 ≠ 4 ∨ 4 * (x.toNat % 16) < 20
    · have hE : pkE l = 1 := by unfold pkE; rw [if_neg h20, hg, hN, if_pos hf]
      have hP : pkP l = ⟨0, 0, 0, 0, 0, []⟩ := by unfold pkP; rw [hE]; rfl
      rw [hE, hP]
      refine (ipParse_form v l w x (by omega) hx hf hv).mono ?_
      rintro e w' ⟨rfl, hb⟩
      exact ⟨_, rfl, hb, World.ownsRow_nil _ _ _ _⟩
    · have hE : pkE l = lateE l.length (pkN l) (ofv ((l.drop 2).take 2)) (65535 - sumv 0 (l.take (pkN l))) (ofv ((l.drop 6).take 2)) := by
        unfold pkE; rw [if_neg h20, hg, hN, if_neg hf]
      by_cases hz : lateE l.length (pkN l) (ofv ((l.drop 2).take 2)) (65535 - sumv 0 (l.take (pkN l))) (ofv ((l.drop 6).take 2)) = 0
      · have hP : pkP l = pkOf l (pkN l) (ofv ((l.drop 2).take 2)).toNat x8 x9 := by
          unfold pkP; rw [if_pos (hE.trans hz)]; unfold pkG; rw [hx8, hx9]; rfl
        have h0 := (ofv_bd ((l.drop 2).take 2)).1
        rw [hE.trans hz, hP]
        exact ipParse_ok v l w x x8 x9 (pkN l) _ _ _ (by omega) hl hx hx8 hx9 (by omega) hN (by omega) (by omega) rfl rfl (by rw [Int.toNat_of_nonneg h0]; exact hz) hv
      · have hP : pkP l = ⟨0, 0, 0, 0, 0, []⟩ := by unfold pkP; rw [if_neg (by rw [hE]; exact hz)]
        rw [hP, hE]
        refine (ipParse_late v l w x (pkN l) _ _ _ (by omega) hl hx (by omega) hN (by omega) rfl rfl rfl hz hv).mono ?_
        rintro e w' ⟨rfl, hb⟩
        exact ⟨_, rfl, hb, World.ownsRow_nil _ _ _ _⟩
theorem rparse10_any (v : Value) (l : List UInt8) (w : World) (hl : l.length ≤ 1000000) (hv : Sl w v l) :
    Calls Try.prog 33 #[v] w fun e w' => ∃ v', e = .returned (.tuple #[.agg #[.int .i64 (pkP l).src, .int .i64 (pkP l).dst, .int .i64 (pkP l).proto, .int .i64 (pkP l).ttl, .int .i64 (pkP l).id, v'], .int .i64 (pkE l)]) ∧ Below w.heap.size w w' ∧ w'.ownsRow w.heap.size 5 1 v' (pkP l).data.length ((pkP l).data.map B8) := by
  by_cases h20 : l.length < 20
  · have hE : pkE l = 7 := by unfold pkE; rw [if_pos h20]
    have hP : pkP l = ⟨0, 0, 0, 0, 0, []⟩ := by unfold pkP; rw [hE]; rfl
    rw [hE, hP]
    refine (rIpParse_short v l w h20 hv).mono ?_
    rintro e w' ⟨rfl, hb⟩
    exact ⟨_, rfl, hb, World.ownsRow_nil _ _ _ _⟩
  · obtain ⟨x, hx⟩ : ∃ x, l[0]? = some x := ⟨_, List.getElem?_eq_getElem (by omega)⟩
    obtain ⟨x8, hx8⟩ : ∃ x, l[8]? = some x := ⟨_, List.getElem?_eq_getElem (by omega)⟩
    obtain ⟨x9, hx9⟩ : ∃ x, l[9]? = some x := ⟨_, List.getElem?_eq_getElem (by omega)⟩
    have hg : l[0]?.getD 0 = x := by rw [hx]; rfl
    have hN : pkN l = 4 * (x.toNat % 16) := by unfold pkN; rw [hg]
    by_cases hf : x.toNat / 16 ≠ 4 ∨ 4 * (x.toNat % 16) < 20
    · have hE : pkE l = 1 := by unfold pkE; rw [if_neg h20, hg, hN, if_pos hf]
      have hP : pkP l = ⟨0, 0, 0, 0, 0, []⟩ := by unfold pkP; rw [hE]; rfl
      rw [hE, hP]
      refine (rIpParse_form v l w x (by omega) hx hf hv).mono ?_
      rintro e w' ⟨rfl, hb⟩
      exact ⟨_, rfl, hb, World.ownsRow_nil _ _ _ _⟩
    · have hE : pkE l = lateE l.length (pkN l) (ofv ((l.drop 2).take 2)) (65535 - sumv 0 (l.take (pkN l))) (ofv ((l.drop 6).take 2)) := by
        unfold pkE; rw [if_neg h20, hg, hN, if_neg hf]
      by_cases hz : lateE l.length (pkN l) (ofv ((l.drop 2).take 2)) (65535 - sumv 0 (l.take (pkN l))) (ofv ((l.drop 6).take 2)) = 0
      · have hP : pkP l = pkOf l (pkN l) (ofv ((l.drop 2).take 2)).toNat x8 x9 := by
          unfold pkP; rw [if_pos (hE.trans hz)]; unfold pkG; rw [hx8, hx9]; rfl
        have h0 := (ofv_bd ((l.drop 2).take 2)).1
        rw [hE.trans hz, hP]
        exact rIpParse_ok v l w x x8 x9 (pkN l) _ _ _ (by omega) hl hx hx8 hx9 (by omega) hN (by omega) (by omega) rfl rfl (by rw [Int.toNat_of_nonneg h0]; exact hz) hv
      · have hP : pkP l = ⟨0, 0, 0, 0, 0, []⟩ := by unfold pkP; rw [if_neg (by rw [hE]; exact hz)]
        rw [hP, hE]
        refine (rIpParse_late v l w x (pkN l) _ _ _ (by omega) hl hx (by omega) hN (by omega) rfl rfl rfl hz hv).mono ?_
        rintro e w' ⟨rfl, hb⟩
        exact ⟨_, rfl, hb, World.ownsRow_nil _ _ _ _⟩
end Go.Proofs.Ytgaimpopcehabaa
