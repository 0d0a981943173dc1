/- A reader that skips bytes. -/
import Derived.Test.YtilcanblgdmecaaPut
import Derived.Test.YtilcanblgdmecaaScan
namespace Go.Proofs.Ytilcanblgdmecaa
open Go.RowKit
set_option linter.unusedVariables false
set_option linter.unusedSimpArgs false

end Go.Proofs.Ytilcanblgdmecaa
