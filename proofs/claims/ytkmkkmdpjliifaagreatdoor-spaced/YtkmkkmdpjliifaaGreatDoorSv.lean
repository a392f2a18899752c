/- The library contract of unicode/utf8.ValidString, laid over this program (no walk: by its table of numbers). -/
import Derived.Shelf.Unicode.ValidAny
import Derived.Test.YtkmkkmdpjliifaaGreatDoorProg
namespace Go.Proofs
open Go.Shelf
end Go.Proofs
