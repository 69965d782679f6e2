/-
  Rows of Sums: a row that came in, read. Written by program (tools/introws.py).
-/
import Derived.Test.YtejfknkcakeakaaGrSums
namespace Go.Proofs.Ytejfknkcakeakaa
namespace Gr
open Go.ChangeShapes Go.WideShapes Go.ChangeAt Go.RowKit

end Gr
end Go.Proofs.Ytejfknkcakeakaa
