/- The two texts that every statement begins with, read by the tree. -/
import Derived.Test.YtpngpkbnhepleaaDoorPp
import Derived.KernelRfl
namespace Go.Proofs.YtpngpkbnhepleaaDoor
namespace Pp
def wake1 : List UInt8 := [99, 108, 97, 115, 115, 32, 65, 32, 123, 32, 102, 105, 101, 108, 100, 32, 120, 32, 58, 32, 105, 110, 116, 32, 59, 32, 125]
def wake2 : List UInt8 := [99, 108, 97, 115, 115, 32, 65, 32, 123, 32, 102, 105, 101, 108, 100, 32, 105, 110, 116, 32, 58, 32, 105, 110, 116, 32, 59, 32, 125]
theorem wake1_is : program wake1 = ([⟨[65], false, [], [], [⟨[120], ⟨2, []⟩, false⟩], []⟩], 0, 0) := by kernel_rfl
theorem wake2_is : program wake2 = ([], 16, 4) := by kernel_rfl
theorem wake_op : opL [116, 104, 114, 111, 119] = some 43 := by kernel_rfl
theorem wake_add : opWords.getD 8 [] = [97, 100, 100] := by kernel_rfl
theorem wake_class : keptL [99, 108, 97, 115, 115] = true := by kernel_rfl
end Pp
end Go.Proofs.YtpngpkbnhepleaaDoor
