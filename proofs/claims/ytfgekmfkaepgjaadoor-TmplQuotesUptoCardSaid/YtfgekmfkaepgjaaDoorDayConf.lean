/- DERIVED. What conf's DayOf and date return: the day of a date, or an error; the date of a day. Condition: of date that it is a day. -/
import Derived.Test.YtfgekmfkaepgjaaDoorDayOfs
namespace Go.Proofs.YtfgekmfkaepgjaaDoor
open Go.RowKit
end Go.Proofs.YtfgekmfkaepgjaaDoor
