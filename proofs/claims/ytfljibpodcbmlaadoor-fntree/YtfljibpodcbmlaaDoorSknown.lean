/- SHA-256 of the two known texts, reckoned by the kernel. No conditions. -/
import Derived.Test.YtfljibpodcbmlaaDoorSnum2
import Derived.KernelRfl
namespace Go.Proofs.YtfljibpodcbmlaaDoor.Num
theorem sha_abc : shal [97, 98, 99] = [186, 120, 22, 191, 143, 1, 207, 234, 65, 65, 64, 222, 93, 174, 34, 35, 176, 3, 97, 163, 150, 23, 122, 156, 180, 16, 255, 97, 242, 0, 21, 173] := by kernel_rfl
theorem sha_empty : shal [] = [227, 176, 196, 66, 152, 252, 28, 20, 154, 251, 244, 200, 153, 111, 185, 36, 39, 174, 65, 228, 100, 155, 147, 76, 164, 149, 153, 27, 120, 82, 184, 85] := by kernel_rfl
end Go.Proofs.YtfljibpodcbmlaaDoor.Num
