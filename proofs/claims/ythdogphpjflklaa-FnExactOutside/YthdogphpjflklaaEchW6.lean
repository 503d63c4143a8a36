/- The walk of choose. -/
import Derived.Test.YthdogphpjflklaaEchW5
import Derived.Deep.DeepMust
namespace Go.Proofs.Ythdogphpjflklaa
open Go.RowKit Go.Proofs.Ythdogphpjflklaa.RM
theorem hid {p : Prop} (h : p) : Hid p := h
theorem infoInt : (Try.prog.info? 3).map (fun i => (i.zero, i.size, i.bytes)) = some (some (.int .i64 0), 1, 8) := by kernel_rfl


end Go.Proofs.Ythdogphpjflklaa
