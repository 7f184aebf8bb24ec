/- The contract of KeccakSums. -/
import Derived.Test.YtienelgkdhmelaaDoorKRefF
import Derived.Test.YtienelgkdhmelaaDoorKHead
namespace Go.Proofs.YtienelgkdhmelaaDoor
open Go.RowKit

set_option maxRecDepth 100000 in
set_option maxHeartbeats 4000000 in
theorem sums_c {s : ByteArray} (_hs : s.size ≤ maxLen) (w : World) (hT : Walk w) :
    Calls Tryd.prog 3 #[.string s] w fun e w' => e = .returned (.bool true) ∧ Below w.heap.size w w' := by
  have HT := Lib.hid hT; clear hT
  have ht : (s.extract 0 (min (s.size : Int) 600).toNat).size ≤ 1000 := by rw [ByteArray.size_extract]; omega
  have HC := Lib.hid (fun W h => sum_c (s.extract 0 (min (s.size : Int) 600).toNat) W h)
  have HR := Lib.hid (fun W => rsum_c ht W)
  generalize hu : sumN (s.extract 0 (min (s.size : Int) 600).toNat) = u at *
  clear hu ht
  go_enter Tryd.func3, Tryd.ntmps3
  go_wp2_with (go_at_call 8; refine (head_c _ HT.out).mono ?_)
  rintro e w1 ⟨rfl, h1⟩
  have H1 := Lib.hid h1; clear h1
  go_wp2_with (go_at_call 9; refine (HC.out _ (HT.out.later H1.out)).mono ?_)
  rintro e w2 ⟨rfl, h2⟩
  have H2 := Lib.hid (H1.out.trans (h2.mono H1.out.size)); clear h2
  go_wp2_with (go_at_call 10; refine (HR.out _).mono ?_)
  rintro e w3 ⟨rfl, h3⟩
  have H3 := Lib.hid (H2.out.trans (h3.mono H2.out.size)); clear h3
  go_wp2_with fail
  go_ret
  exact ⟨rfl, H3.out⟩
end Go.Proofs.YtienelgkdhmelaaDoor
