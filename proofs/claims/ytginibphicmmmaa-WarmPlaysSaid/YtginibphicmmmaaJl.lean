/- The chapter's examples, of a set (written by genJl.py). -/
import Derived.Test.YtginibphicmmmaaJk
namespace Go.Proofs.Ytginibphicmmmaa
open Go.RowKit Go.Maps Go.Shelf Mp

set_option maxRecDepth 100000 in
set_option maxHeartbeats 8000000 in
theorem exam_c (W : World) : Calls Try.prog 8 #[] W fun e W' => e = .returned (.bool true) ∧ Below W.heap.size W W' := by
  have AL : [97].length ≤ big := by decide
  go_enter Try.func8, Try.ntmps8
  have CN := Lib.hid (St.new (Below.refl W.heap.size W) (B := []) (fun _ h => by cases h))
  unfold ptr at CN
  go_wp2_with fail
  refine CN.out.mono ?_
  rintro e V0 ⟨b, rfl, h9⟩
  have H0 := Lib.hid h9
  clear CN h9
  have C := Lib.hid (St.addr (a := [97]) H0.out (by omega) AL)
  rw [show str [97] = ⟨#[97]⟩ from rfl, show (hasBy plOf [] (⟨[97], true, Wq.zero⟩ : Pl)).isSome = false from rfl] at C
  unfold ptr at C
  go_wp2_with fail
  refine C.out.mono ?_
  rintro e V1 ⟨rfl, h9⟩
  have H1 := Lib.hid (show St [.addr [97]] b 1 [] W V1 from h9)
  clear C H0 h9
  have C := Lib.hid (St.addr (a := [97]) H1.out (by omega) AL)
  rw [show str [97] = ⟨#[97]⟩ from rfl, show (hasBy plOf [.addr [97]] (⟨[97], true, Wq.zero⟩ : Pl)).isSome = true from rfl] at C
  unfold ptr at C
  go_wp2_with fail
  refine C.out.mono ?_
  rintro e V2 ⟨rfl, h9⟩
  have H2 := Lib.hid (show St [.addr [97]] b 2 [] W V2 from h9)
  clear C H1 h9
  have C := Lib.hid (St.hasSlot (a := [97]) H2.out AL Wq.zero_ok)
  rw [show str [97] = ⟨#[97]⟩ from rfl, show (hasBy plOf [.addr [97]] (⟨[97], false, Wq.zero⟩ : Pl)).isSome = false from rfl, show wqC Wq.zero = #[.int .u64 0, .int .u64 0, .int .u64 0, .int .u64 0] from rfl] at C
  unfold ptr at C
  go_wp2_with fail
  refine C.out.mono ?_
  rintro e V3 ⟨rfl, h9⟩
  have H3 := Lib.hid (show St [.addr [97]] b 2 [] W V3 from h9)
  clear C H2 h9
  have C := Lib.hid (St.refund H3.out (by omega) 5)
  unfold ptr at C
  go_wp2_with fail
  refine C.out.mono ?_
  rintro e V4 ⟨rfl, h9⟩
  have H4 := Lib.hid (show St [.refund 5, .addr [97]] b 3 [] W V4 from h9)
  clear C H3 h9
  have C := Lib.hid (St.hasAddr (a := [97]) H4.out AL)
  rw [show str [97] = ⟨#[97]⟩ from rfl, show (hasBy plOf [.refund 5, .addr [97]] (⟨[97], true, Wq.zero⟩ : Pl)).isSome = true from rfl] at C
  unfold ptr at C
  go_wp2_with fail
  refine C.out.mono ?_
  rintro e V5 ⟨rfl, h9⟩
  have H5 := Lib.hid (show St [.refund 5, .addr [97]] b 3 [] W V5 from h9)
  clear C H4 h9
  have C := Lib.hid (St.total H5.out)
  rw [show tot [.refund 5, .addr [97]] = 5 from by simp [tot, wrap64]] at C
  unfold ptr at C
  go_wp2_with fail
  refine C.out.mono ?_
  rintro e V6 ⟨rfl, rfl⟩
  clear C
  have C := Lib.hid (St.mark H5.out)
  rw [show (([Cg.refund 5, .addr [97]].length : Nat) : Int) = 2 from rfl] at C
  unfold ptr at C
  go_wp2_with fail
  refine C.out.mono ?_
  rintro e V7 ⟨rfl, rfl⟩
  clear C
  have C := Lib.hid (St.back H5.out (by omega) 1 (by decide))
  rw [show ((1 : Nat) : Int) = 1 from rfl] at C
  unfold ptr at C
  go_wp2_with fail
  refine C.out.mono ?_
  rintro e V8 ⟨rfl, h9⟩
  have H6 := Lib.hid (show St [.addr [97]] b 3 [] W V8 from h9)
  clear C H5 h9
  have C := Lib.hid (St.total H6.out)
  rw [show tot [.addr [97]] = 0 from by simp [tot]] at C
  unfold ptr at C
  go_wp2_with fail
  refine C.out.mono ?_
  rintro e V9 ⟨rfl, rfl⟩
  clear C
  have C := Lib.hid (St.backNo H6.out 2 (by decide))
  unfold ptr at C
  go_wp2_with fail
  refine C.out.mono ?_
  rintro e V10 ⟨rfl, rfl⟩
  clear C
  go_wp2_with fail
  go_ret
  exact ⟨rfl, H6.out.below⟩
end Go.Proofs.Ytginibphicmmmaa
