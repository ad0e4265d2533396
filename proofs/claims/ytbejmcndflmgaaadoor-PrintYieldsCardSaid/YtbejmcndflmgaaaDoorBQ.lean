/-
  Regions that draw their order and hold calls: the library's tactic, laid for later texts. No program stands behind this text.
-/
import Derived.Test.YtbejmcndflmgaaaDoorQuiet
import Derived.BigQuiet
namespace Go.Proofs.YtbejmcndflmgaaaDoor
end Go.Proofs.YtbejmcndflmgaaaDoor
