/- Layer 16, plainly: the chapter's layers. -/
import Derived.Test.YtokeiagcdahmaaaDoorTtW
namespace Go.Proofs.YtokeiagcdahmaaaDoor

def opqN : List UInt8 := [97, 47, 46, 119, 104, 46, 46, 119, 104, 46, 46, 111, 112, 113]
def A1 : List Nd := [⟨[97], 2, 493, []⟩, ⟨[97, 47, 98], 1, 0, [120]⟩]
def A2 : List Nd := [⟨[97], 2, 493, []⟩, ⟨[99], 4, 0, [46, 46, 47, 120]⟩]
def A3 : List Nd := [⟨[97], 1, 0, [121]⟩, ⟨[99], 4, 0, [46, 46, 47, 120]⟩]
def A5 : List Nd := [⟨[97], 2, 493, []⟩, ⟨[97, 47, 98], 1, 0, []⟩, ⟨[97, 47, 99], 2, 493, []⟩, ⟨[97, 47, 99, 47, 101], 1, 0, []⟩]
def A6 : List Nd := [⟨[97], 2, 493, []⟩, ⟨[97, 47, 100], 1, 0, []⟩]
def E1 : List En := [⟨1, [97, 47, 98], [], 0, [120]⟩]
def E2 : List En := [⟨1, [97, 47, 46, 119, 104, 46, 98], [], 0, []⟩, ⟨4, [99], [46, 46, 47, 120], 0, []⟩]
def E3 : List En := [⟨1, [97], [], 0, [121]⟩]
def E4 : List En := [⟨1, [46, 46, 47, 120], [], 0, []⟩]
def E5 : List En := [⟨1, [97, 47, 98], [], 0, []⟩, ⟨1, [97, 47, 99, 47, 101], [], 0, []⟩]
def E6 : List En := [⟨1, opqN, [], 0, []⟩, ⟨1, [97, 47, 100], [], 0, []⟩]
theorem ap1 : applyT [] E1 = (A1, 0) := by decide +kernel
theorem ap2 : applyT A1 E2 = (A2, 0) := by decide +kernel
theorem ap3 : applyT A2 E3 = (A3, 0) := by decide +kernel
theorem ap4 : applyT A3 E4 = ([], 71) := by decide +kernel
theorem ap5 : applyT [] E5 = (A5, 0) := by decide +kernel
theorem ap6 : applyT A5 E6 = (A6, 0) := by decide +kernel
end Go.Proofs.YtokeiagcdahmaaaDoor
#print axioms Go.Proofs.YtokeiagcdahmaaaDoor.ap6
