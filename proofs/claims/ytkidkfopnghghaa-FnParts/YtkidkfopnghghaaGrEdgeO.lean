/-
  Rows of Edge: a row that came in, read. Written by program (tools/introws.py).
-/
import Derived.Test.YtkidkfopnghghaaGrEdge
namespace Go.Proofs.Ytkidkfopnghghaa
namespace Gr
open Go.ChangeShapes Go.WideShapes Go.ChangeAt Go.RowKit

end Gr
end Go.Proofs.Ytkidkfopnghghaa
