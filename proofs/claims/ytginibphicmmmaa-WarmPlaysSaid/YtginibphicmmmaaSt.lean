/- A text as a string's bytes. -/
import Derived.WalkKit
namespace Go.Proofs.Ytginibphicmmmaa
def str (l : List UInt8) : ByteArray := ⟨l.toArray⟩
theorem str_size (l : List UInt8) : (str l).size = l.length := by simp [str, ByteArray.size]
theorem str_inj {a b : List UInt8} (h : str a = str b) : a = b := by
  have h1 : (str a).data.toList = (str b).data.toList := by rw [h]
  simpa [str] using h1
end Go.Proofs.Ytginibphicmmmaa
