/- DERIVED. What list.TermAddress, PartAddress and the reference's AddressOfTerm, AddressOfPart return. Conditions: the library's variables MaxLen and of powers of ten are as the program's text lays them; strings of at most 2^21 bytes. -/
import Derived.Test.YtlifjhglpflplaaDoorTAddr
import Derived.Test.YtlifjhglpflplaaDoorTPure
import Derived.Lib.AppendIntMem
namespace Go.Proofs.YtlifjhglpflplaaDoor
set_option linter.unusedVariables false
open Go.RowKit
/-- The library's variables. -/
def Vars (w : World) : Prop := MaxT w ∧ Lib.TabBelow Tryd.prog w.heap.size w "internal/strconv.uint64pow10" .u64 Lib.pow10Tab
/-- What is returned: the address, or its error. -/
def addrOut (s : ByteArray) : Value := if taddrB s = true then .tuple #[.string s, .int .i64 0] else .tuple #[.string ⟨#[]⟩, .int .i64 3]
def termS (b n : ByteArray) : ByteArray := b ++ n ++ slashS
def termOut (b n : ByteArray) : Value := if (taddrB b && tpartB n) = true then addrOut (termS b n) else .tuple #[.string ⟨#[]⟩, .int .i64 3]
end Go.Proofs.YtlifjhglpflplaaDoor
