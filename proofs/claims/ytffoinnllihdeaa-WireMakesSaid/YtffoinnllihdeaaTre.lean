import Derived.Test.YtffoinnllihdeaaProg
import Derived.Test.YtffoinnllihdeaaTrd
/- Trace: are two rows of numbers alike, by the document. -/
namespace Go.Proofs.Ytffoinnllihdeaa
open Go.RowKit
set_option maxRecDepth 100000
theorem lists_eq {xs ys : List Int} (hl : xs.length = ys.length) (h : ∀ j, j < xs.length → nth xs j = nth ys j) : xs = ys := by
  refine List.ext_getElem hl fun j h1 h2 => ?_
  have := h j h1
  unfold nth at this
  simpa [List.getD, h1, h2] using this
end Go.Proofs.Ytffoinnllihdeaa
