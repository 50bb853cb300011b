import Derived.Test.YtfpoelklhekfaaaGreatDoorQag
namespace Go.Proofs.YtfpoelklhekfaaaGreatDoor.Mu
open Go Go.RowKit Go.Shelf
attribute [local go_sem] Oper.semAt_some
set_option linter.unusedVariables false
set_option maxRecDepth 100000
end Go.Proofs.YtfpoelklhekfaaaGreatDoor.Mu
