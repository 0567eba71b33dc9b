/-
  Connections in memory: what a store leaves, for the walks over frames that a list tells; the seat's types.
-/
import Derived.Test.YtjgbiffgmafhmaaLtOTcC
import Derived.Test.YtjgbiffgmafhmaaLtOFw
namespace Go.Proofs.Ytjgbiffgmafhmaa
open Go.RowKit
theorem MO.chg {B q g : Nat} {H : List Nat} {vo vp vl vt : Value} {PL : List (EP × Value)} {SL : List (ES × Value)} {out T : List UInt8} {W W' : World} (h : MO B H q vo vp vl vt PL SL out T W) (s : W.grownBy W' (some g)) (hg : g = q ∨ g ∈ H) : MO B H q vo vp vl vt PL SL out T W' :=
  h.stay s (fun k e => by injection e with e; subst e; exact .inr hg)
theorem Kp.chg {H : List Nat} {g : Nat} {W0 W W' : World} (h : Kp H W0 W) (s : W.grownBy W' (some g)) (hg : g ∉ H) : Kp H W0 W' :=
  h.trans ⟨s.size, fun k hk hl => s.block k hl (fun e => by injection e with e; subst e; exact hg hk)⟩
theorem RowBut.chg {q g k : Nat} {vs : List Value} {W W' : World} (h : RowBut W q vs k) (s : W.grownBy W' (some g)) (hn : q ≠ g) : RowBut W' q vs k := by obtain ⟨z, r⟩ := h; exact ⟨z, r.chg s hn⟩
theorem own_chg {B e sz n g : Nat} {v : Value} {xs : List Value} {W W' : World} (h : W.ownsRow B e sz v n xs) (s : W.grownBy W' (some g)) (hg : g < B) : W'.ownsRow B e sz v n xs := own_stay h s (fun k hk e => by have := (blk_lt h hk).1; injection e with e; omega)
theorem down_chg {α : Type} {K : DK α} {t B g : Nat} {v : Value} {L : List (α × Value)} {W W' : World} (h : DOwn K t W B v L) (s : W.grownBy W' (some g)) (hg : g < B) : DOwn K t W' B v L := h.stay s (fun k hk e => by have := (dblk_lt h hk).1; injection e with e; omega)
def tbl : List TE := [⟨3, false, 1, [], 0⟩, ⟨4, false, 1, [], 0⟩, ⟨5, false, 1, [], 0⟩, ⟨9, false, 1, [], 2⟩, ⟨15, false, 1, [], 0⟩, ⟨16, false, 1, [], 0⟩, ⟨17, false, 1, [], 0⟩, ⟨21, false, 1, [], 0⟩, ⟨34, false, 1, [], 1⟩, ⟨22, false, 1, [], 1⟩, ⟨24, true, 2, [0, 1], 0⟩, ⟨60, true, 4, [0, 1, 2, 3], 0⟩, ⟨62, true, 16, [0, 1, 2, 3, 4, 5, 6, 7, 8, 9, 11, 12], 0⟩, ⟨63, false, 1, [], 1⟩, ⟨32, false, 1, [], 0⟩, ⟨70, true, 7, [0, 1, 2, 3, 4, 5, 6], 0⟩, ⟨73, false, 1, [], 1⟩, ⟨58, true, 2, [0, 1], 0⟩, ⟨83, false, 1, [], 0⟩, ⟨105, false, 1, [], 0⟩, ⟨108, true, 17, [0, 16], 0⟩, ⟨49, false, 1, [], 1⟩, ⟨89, false, 1, [], 0⟩, ⟨52, false, 1, [], 0⟩, ⟨99, false, 1, [], 1⟩, ⟨100, false, 1, [], 0⟩, ⟨116, false, 1, [], 0⟩, ⟨93, false, 1, [], 0⟩, ⟨143, false, 1, [], 0⟩]
theorem tbl_ok : tbl.all (TE.okB Try.prog) = true := by kernel_rfl
instance : TOk Try.prog tbl := ⟨tbl_ok⟩
/-- A step of a region that draws, in short. -/
theorem fw_tq {P : Program} {ops : Array Oper} {Q : Exit → Act → World → Prop} {S : World → Prop} {n fuel : Nat} {L L' : Kn} {listed : Array Bool} {W : World} {T : List TE} [TOk P T] (i : Nat) {oi : Oper} (hi : ops[i]? = some oi) (hs : stepP T ops n L oi = some L') (k : Hd P ops Q S n L' fuel (listed.setIfInBounds i true) W) (hb : tkB ops listed i = true := by kernel_rfl) (hQ : ∀ c a d v w, Q (.panic c) (Act.put a (some d) v) w → Q (.panic c) a w := by exact fun _ _ _ _ _ h => h) : Hd P ops Q S n L (fuel + 1) listed W := fw_tk i hi hs hb hQ k
end Go.Proofs.Ytjgbiffgmafhmaa
