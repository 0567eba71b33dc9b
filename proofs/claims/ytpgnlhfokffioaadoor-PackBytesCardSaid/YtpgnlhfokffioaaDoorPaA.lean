/-
  Parts of a stream, copied and compared.
-/
import Derived.Test.YtpgnlhfokffioaaDoorDp
import Derived.Test.YtpgnlhfokffioaaDoorReB
import Derived.Test.YtpgnlhfokffioaaDoorOw
import Derived.Test.YtpgnlhfokffioaaDoorGq
import Derived.Laws.ResultCell
namespace Go.Proofs.YtpgnlhfokffioaaDoor
open Go.RowKit
def KPart : DK EP := ⟨2, fun x v => [.int .i64 x.s, v], fun x => x.d, by decide, fun _ _ => rfl, fun x v h u hu => by
  simp only [List.mem_cons, List.not_mem_nil, or_false] at hu
  rcases hu with rfl | rfl <;> first | rfl | exact h⟩
end Go.Proofs.YtpgnlhfokffioaaDoor
