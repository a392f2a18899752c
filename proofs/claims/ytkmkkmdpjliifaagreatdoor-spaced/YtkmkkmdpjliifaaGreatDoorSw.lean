/- The library contracts of utf8.AppendRune, strconv.AppendInt (base 10), strings.HasPrefix and utf8.DecodeRuneInString, laid over this program (no walk: by their tables of numbers). -/
import Derived.Shelf.Utf8.AppendRunePlain
import Derived.Shelf.LaysM
import Derived.Shelf.Strconv.AppendIntPublic10
import Derived.Shelf.Strings.Prefix
import Derived.Shelf.Unicode.DecodeAny
import Derived.Test.YtkmkkmdpjliifaaGreatDoorProg
namespace Go.Proofs
open Go.Shelf Go.RowKit
end Go.Proofs
