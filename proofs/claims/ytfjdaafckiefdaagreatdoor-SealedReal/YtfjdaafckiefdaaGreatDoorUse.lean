/- A region that draws its order, among whose operations some use up what another one has left behind (an append may write behind its row). -/
import Derived.Test.YtfjdaafckiefdaaGreatDoorLast
namespace Go.Proofs.YtfjdaafckiefdaaGreatDoor
open Go.RowKit
section
variable {P : Program} {ops : Array Oper} {Q : Exit → Act → World → Prop}
end
end Go.Proofs.YtfjdaafckiefdaaGreatDoor
