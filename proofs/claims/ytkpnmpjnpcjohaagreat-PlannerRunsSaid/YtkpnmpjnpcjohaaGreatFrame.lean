import Derived.Test.YtkpnmpjnpcjohaaGreatLibRows
import Derived.SizedLaws
import Derived.ChangeOld
import Derived.ShutString
import Derived.JoinedCond
namespace Go.Proofs.YtkpnmpjnpcjohaaGreat.Frames
open Go.ChangeShapes Go.WideShapes Go.ChangeAt Go.RowKit Mem
theorem own : ownKnob Tryz.prog.godebug = none := by kernel_rfl
end Go.Proofs.YtkpnmpjnpcjohaaGreat.Frames
