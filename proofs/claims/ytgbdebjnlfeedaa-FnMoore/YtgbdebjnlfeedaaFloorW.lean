/- The walks of Floor, the program's and the model's: both answer the same whole number. -/
import Derived.Test.YtgbdebjnlfeedaaRatioW2
namespace Go.Proofs.Ytgbdebjnlfeedaa
open Go.RowKit Go.Proofs.Ytgbdebjnlfeedaa.RM

end Go.Proofs.Ytgbdebjnlfeedaa
