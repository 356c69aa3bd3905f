/- (limb's T has nothing that is needed here.) -/
import Derived.Test.YtanijhgmgldiiaaZ
namespace Go.Proofs.Ytanijhgmgldiiaa
end Go.Proofs.Ytanijhgmgldiiaa
