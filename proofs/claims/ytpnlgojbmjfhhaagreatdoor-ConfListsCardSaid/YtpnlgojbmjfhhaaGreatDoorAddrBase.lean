/-
  The walks of label.Split, Join and Count in any world: what they answer for every text; what was in memory before is as it was (where package name is in the translation they are imported). Conditions: the lengths that each states, and the library's variable MaxLen holds some number.
-/
import Derived.Test.YtpnlgojbmjfhhaaGreatDoorMath
import Derived.Test.YtpnlgojbmjfhhaaGreatDoorShelf
import Derived.WalkKit
import Derived.Below
import Derived.Laws.IdiomStrings
import Derived.Lib.SlBytesRow
import Derived.Lib.Hide
import Derived.Lib.Join
import Derived.Test.YtpnlgojbmjfhhaaGreatDoorNameTo
import Derived.Test.YtpnlgojbmjfhhaaGreatDoorPunyRow
namespace Go.Proofs.YtpnlgojbmjfhhaaGreatDoor
open Go.RowKit
end Go.Proofs.YtpnlgojbmjfhhaaGreatDoor
