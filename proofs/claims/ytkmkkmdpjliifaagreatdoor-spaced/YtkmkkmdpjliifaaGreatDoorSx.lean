/- The library contracts of strings.CutPrefix, strings.CutSuffix and strings.LastIndex (of one byte), laid over this program (no walk: by their tables of numbers). -/
import Derived.Shelf.Small.Wraps
import Derived.Shelf.Strings.LastIndex
import Derived.Test.YtkmkkmdpjliifaaGreatDoorProg
namespace Go.Proofs
open Go.Shelf
end Go.Proofs
