/-
  The program's chapter 10: all its contracts, brought together. No statement is proved here.
-/
import Derived.Test.YthncjopbagkdcaaC10c
import Derived.Test.YthncjopbagkdcaaC10d
import Derived.Test.YthncjopbagkdcaaC10k
import Derived.Test.YthncjopbagkdcaaC10m
namespace Go.Proofs.Ythncjopbagkdcaa
open Go.RowKit
theorem comes_len (l : List Int) : comesOut l = comesOut l := rfl
end Go.Proofs.Ythncjopbagkdcaa
