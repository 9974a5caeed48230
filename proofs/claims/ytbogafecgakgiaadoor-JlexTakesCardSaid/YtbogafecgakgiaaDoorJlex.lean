/- Layer 6, the code's own calls at every input: Take, All, Quote. -/
import Derived.Test.YtbogafecgakgiaaDoorJlexT
import Derived.Test.YtbogafecgakgiaaDoorJlexQ
import Derived.Test.YtbogafecgakgiaaDoorUtf
namespace Go.Proofs.YtbogafecgakgiaaDoor
end Go.Proofs.YtbogafecgakgiaaDoor
