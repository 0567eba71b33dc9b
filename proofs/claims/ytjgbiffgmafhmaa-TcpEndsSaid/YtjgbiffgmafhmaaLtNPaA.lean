/-
  Parts of a stream, copied and compared.
-/
import Derived.Test.YtjgbiffgmafhmaaLtNDp
import Derived.Test.YtjgbiffgmafhmaaLtNReB
import Derived.Test.YtjgbiffgmafhmaaLtNOw
import Derived.Test.YtjgbiffgmafhmaaLtNGq
import Derived.Laws.ResultCell
namespace Go.Proofs.Ytjgbiffgmafhmaa
open Go.RowKit
def KPart : DK EP := ⟨2, fun x v => [.int .i64 x.s, v], fun x => x.d, by decide, fun _ _ => rfl, fun x v h u hu => by
  simp only [List.mem_cons, List.not_mem_nil, or_false] at hu
  rcases hu with rfl | rfl <;> first | rfl | exact h⟩
theorem infoPart : (Try.prog.info? 58).map (fun i => (i.zero, i.size, i.bytes)) = some (some (.agg #[.int .i64 0, .slice none 0 0]), 2, 32) := by kernel_rfl
theorem newsPart_alloc (W : World) (x : EP) (v : Value) : ∀ j u, (KPart.row x v)[j]? = some u → (W.alloc (.cells #[.int .i64 x.s, v] 58)).cell? ((⟨W.heap.size, 0, none⟩ : Addr).add j) = some u := by
  intro j u hj
  have e : ((⟨W.heap.size, 0, none⟩ : Addr).add j) = ⟨W.heap.size, j, none⟩ := by unfold Addr.add; split <;> simp_all
  rw [e]
  show (W.alloc (.cells ((KPart.row x v).toArray) 58)).cell? ⟨W.heap.size, j, none⟩ = some u
  have := (rowAt_alloc W (KPart.row x v) 58).cell hj
  exact this
end Go.Proofs.Ytjgbiffgmafhmaa
