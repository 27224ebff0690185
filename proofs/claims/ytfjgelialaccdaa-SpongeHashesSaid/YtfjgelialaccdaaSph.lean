import Derived.Test.YtfjgelialaccdaaProg
import Derived.Test.YtfjgelialaccdaaSql
/- Sponge: the program's calls. -/
namespace Go.Proofs.Ytfjgelialaccdaa
open Go.RowKit
end Go.Proofs.Ytfjgelialaccdaa
