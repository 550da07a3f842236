/- No contract of the library is laid at this seat. -/
import Derived.Test.YtcdgllngefeelaaProg
import Derived.Lib.Strings
import Derived.Lib.SliceRun
import Derived.Lib.Builder
namespace Go.Proofs.Ytcdgllngefeelaa
end Go.Proofs.Ytcdgllngefeelaa
