/- The library contract of strings.Split, laid over this program (no walk: by its table of numbers). -/
import Derived.Shelf.Strings.Split
import Derived.Test.YtkmkkmdpjliifaaGreatDoorProg
namespace Go.Proofs
open Go.Shelf
end Go.Proofs
