/-
  HashPieces' walk for a text of any length; no conditions but those that the theorem names.
-/
import Derived.Test.YtopjbiccipgnjaaDoorPD
import Derived.OpenShut
namespace Go.Proofs.YtopjbiccipgnjaaDoor
open Go.RowKit

theorem pieces_row {w : World} (v : Value) (l sp : List UInt8) (n : Int) (hS : SlB w v l sp) (hn : (Lit.int .i64 n).wf = true) (hG : Glob w) :
    Calls Tryd.prog 7 #[v, .int .i64 n] w fun r w' => YesF w r w' := by
  by_cases h : 1000 < l.length
  · exact pieces_long v l sp n w hS h hG
  · exact pieces_any v l sp n w hS (by omega) (bounds_i64 hn) hG
end Go.Proofs.YtopjbiccipgnjaaDoor
