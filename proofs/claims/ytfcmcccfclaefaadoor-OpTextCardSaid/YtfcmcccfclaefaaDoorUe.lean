/- A row of codes (written by genUe.py). -/
import Derived.Test.YtfcmcccfclaefaaDoorUd
import Derived.Shelf.Abstract
namespace Go.Proofs.YtfcmcccfclaefaaDoor
open Go.RowKit Go.Maps Go.Shelf Mp

def tSum : List (Nat × Inf) := [(32, ⟨[75, 69, 67, 67, 65, 75, 50, 53, 54], 30, 2, 1⟩)]
def rowL : Nat → List (Nat × Inf)
  | 0 => tReck | 1 => tComp | 2 => tSum | 3 => tSurr | 4 => tBloc | 5 => tPlac
  | 6 => fam 96 16 (fun i => iPush (96 - 95 + i)) | 7 => fam 112 16 (fun i => iPush (112 - 95 + i))
  | 8 => fam 128 16 iDup | 9 => fam 144 16 iSwap | 10 => fam 160 5 iLog | 15 => tCall
  | _ => []
/-- What a row's call leaves: a map of its own, or none. -/
def RowAt (l : List (Nat × Inf)) (W : World) (mb : Option Nat) (W' : World) : Prop :=
  Below W.heap.size W W' ∧ ((mb = none ∧ l = []) ∨ ∃ m, mb = some m ∧ W.heap.size ≤ m ∧ MapFn kitB m 16 (tab l) W')
def RowR (l : List (Nat × Inf)) (W : World) (e : Ending) (W' : World) : Prop := ∃ mb, e = .returned (.map mb) ∧ RowAt l W mb W'
theorem Mt.row {W V V' : World} {m n : Nat} {l : List (Nat × Inf)} (h : Mt V m n (tab l) V') (hb : Below W.heap.size W V) (hn : n ≤ 16) : RowAt l W (some m) V' :=
  ⟨hb.trans (h.below.mono hb.size), Or.inr ⟨m, rfl, Nat.le_trans hb.size h.new, h.map.mono hn⟩⟩
theorem enter_push (args : Array Value) (w : World) : (callFunc 33 args).run Tryd.prog w = .ok (.enter 33 args) w := enters_of Tryd.func33 (by kernel_rfl) rfl args w
theorem enter_dup (args : Array Value) (w : World) : (callFunc 35 args).run Tryd.prog w = .ok (.enter 35 args) w := enters_of Tryd.func35 (by kernel_rfl) rfl args w
theorem enter_swap (args : Array Value) (w : World) : (callFunc 36 args).run Tryd.prog w = .ok (.enter 36 args) w := enters_of Tryd.func36 (by kernel_rfl) rfl args w
theorem enter_log (args : Array Value) (w : World) : (callFunc 37 args).run Tryd.prog w = .ok (.enter 37 args) w := enters_of Tryd.func37 (by kernel_rfl) rfl args w
set_option maxRecDepth 100000 in
set_option maxHeartbeats 4000000 in
theorem row0_c (W : World) : Calls Tryd.prog 19 #[.int .u8 0] W (RowR (rowL 0) W) := by
  have C := Lib.hid (reckoning_c (W.alloc (.cells #[.int .u8 0] 5 (0, 0))))
  go_enter Tryd.func19, Tryd.ntmps19
  go_wp2_with fail
  refine C.out.mono ?_
  rintro e V ⟨m, rfl, h⟩
  have HX := Lib.hid h
  clear h
  go_wp2_with fail
  go_ret
  exact ⟨_, rfl, HX.out.row ((Below.refl _ W).alloc (Nat.le_refl _) _) (by decide)⟩
set_option maxRecDepth 100000 in
set_option maxHeartbeats 4000000 in
theorem row1_c (W : World) : Calls Tryd.prog 19 #[.int .u8 1] W (RowR (rowL 1) W) := by
  have C := Lib.hid (comparing_c (W.alloc (.cells #[.int .u8 16] 5 (0, 0))))
  go_enter Tryd.func19, Tryd.ntmps19
  go_wp2_with fail
  refine C.out.mono ?_
  rintro e V ⟨m, rfl, h⟩
  have HX := Lib.hid h
  clear h
  go_wp2_with fail
  go_ret
  exact ⟨_, rfl, HX.out.row ((Below.refl _ W).alloc (Nat.le_refl _) _) (by decide)⟩
set_option maxRecDepth 100000 in
set_option maxHeartbeats 4000000 in
theorem row2_c (W : World) : Calls Tryd.prog 19 #[.int .u8 2] W (RowR (rowL 2) W) := by
  have H0 := Mt.made (W.alloc (.cells #[.int .u8 32] 5 (0, 0)))
  rw [alloc_size] at H0
  have H := Lib.hid H0
  clear H0
  have hmm := @run_makeMap Tryd.prog
  go_enter Tryd.func19, Tryd.ntmps19
  go_wp2_with (refine wpList_insert_tab H.out (by rfl) _ _ _ (by rfl) (by rfl) (by rfl) (by rfl) (by rfl) (by decide) ?_; clear H; intro V H0; have H := Lib.hid H0; clear H0)
  go_ret
  exact ⟨_, rfl, H.out.row ((Below.refl _ W).alloc (Nat.le_refl _) _) (by decide)⟩
set_option maxRecDepth 100000 in
set_option maxHeartbeats 4000000 in
theorem row3_c (W : World) : Calls Tryd.prog 19 #[.int .u8 3] W (RowR (rowL 3) W) := by
  have C := Lib.hid (surroundings_c (W.alloc (.cells #[.int .u8 48] 5 (0, 0))))
  go_enter Tryd.func19, Tryd.ntmps19
  go_wp2_with fail
  refine C.out.mono ?_
  rintro e V ⟨m, rfl, h⟩
  have HX := Lib.hid h
  clear h
  go_wp2_with fail
  go_ret
  exact ⟨_, rfl, HX.out.row ((Below.refl _ W).alloc (Nat.le_refl _) _) (by decide)⟩
set_option maxRecDepth 100000 in
set_option maxHeartbeats 4000000 in
theorem row4_c (W : World) : Calls Tryd.prog 19 #[.int .u8 4] W (RowR (rowL 4) W) := by
  have C := Lib.hid (blocks_c (W.alloc (.cells #[.int .u8 64] 5 (0, 0))))
  go_enter Tryd.func19, Tryd.ntmps19
  go_wp2_with fail
  refine C.out.mono ?_
  rintro e V ⟨m, rfl, h⟩
  have HX := Lib.hid h
  clear h
  go_wp2_with fail
  go_ret
  exact ⟨_, rfl, HX.out.row ((Below.refl _ W).alloc (Nat.le_refl _) _) (by decide)⟩
set_option maxRecDepth 100000 in
set_option maxHeartbeats 4000000 in
theorem row5_c (W : World) : Calls Tryd.prog 19 #[.int .u8 5] W (RowR (rowL 5) W) := by
  have C := Lib.hid (places_c (W.alloc (.cells #[.int .u8 80] 5 (0, 0))))
  go_enter Tryd.func19, Tryd.ntmps19
  go_wp2_with fail
  refine C.out.mono ?_
  rintro e V ⟨m, rfl, h⟩
  have HX := Lib.hid h
  clear h
  go_wp2_with fail
  go_ret
  exact ⟨_, rfl, HX.out.row ((Below.refl _ W).alloc (Nat.le_refl _) _) (by decide)⟩
set_option maxRecDepth 100000 in
set_option maxHeartbeats 4000000 in
theorem row6_c (W : World) : Calls Tryd.prog 19 #[.int .u8 6] W (RowR (rowL 6) W) := by
  have C := Lib.hid (family_c (first := 96) (many := 16) (by decide) (fun i => iPush (96 - 95 + i)) 33 #[.pointer (some ⟨W.heap.size, 0, none⟩)] (W.alloc (.cells #[.int .u8 96] 5 (0, 0))) enter_push (fun i hi V hV => push_c (n := i) (f := 96) hi (by omega) (by omega) V ((hV.block _ (by simp)).trans (heap_alloc_new W (.cells #[.int .u8 96] 5 (0, 0))))))
  rw [show ((96 : Nat) : Int) = 96 from rfl, show ((16 : Nat) : Int) = 16 from rfl] at C
  go_enter Tryd.func19, Tryd.ntmps19
  go_wp2_with fail
  refine C.out.mono ?_
  rintro e V ⟨m, rfl, h⟩
  have HX := Lib.hid h
  clear h
  go_wp2_with fail
  go_ret
  exact ⟨_, rfl, HX.out.row ((Below.refl _ W).alloc (Nat.le_refl _) _) (by decide)⟩
set_option maxRecDepth 100000 in
set_option maxHeartbeats 4000000 in
theorem row7_c (W : World) : Calls Tryd.prog 19 #[.int .u8 7] W (RowR (rowL 7) W) := by
  have C := Lib.hid (family_c (first := 112) (many := 16) (by decide) (fun i => iPush (112 - 95 + i)) 33 #[.pointer (some ⟨W.heap.size, 0, none⟩)] (W.alloc (.cells #[.int .u8 112] 5 (0, 0))) enter_push (fun i hi V hV => push_c (n := i) (f := 112) hi (by omega) (by omega) V ((hV.block _ (by simp)).trans (heap_alloc_new W (.cells #[.int .u8 112] 5 (0, 0))))))
  rw [show ((112 : Nat) : Int) = 112 from rfl, show ((16 : Nat) : Int) = 16 from rfl] at C
  go_enter Tryd.func19, Tryd.ntmps19
  go_wp2_with fail
  refine C.out.mono ?_
  rintro e V ⟨m, rfl, h⟩
  have HX := Lib.hid h
  clear h
  go_wp2_with fail
  go_ret
  exact ⟨_, rfl, HX.out.row ((Below.refl _ W).alloc (Nat.le_refl _) _) (by decide)⟩
set_option maxRecDepth 100000 in
set_option maxHeartbeats 4000000 in
theorem row8_c (W : World) : Calls Tryd.prog 19 #[.int .u8 8] W (RowR (rowL 8) W) := by
  have C := Lib.hid (family_c (first := 128) (many := 16) (by decide) iDup 35 #[] (W.alloc (.cells #[.int .u8 128] 5 (0, 0))) enter_dup (fun i hi V _ => dup_c (n := i) (by omega) V))
  rw [show ((128 : Nat) : Int) = 128 from rfl, show ((16 : Nat) : Int) = 16 from rfl] at C
  go_enter Tryd.func19, Tryd.ntmps19
  go_wp2_with fail
  refine C.out.mono ?_
  rintro e V ⟨m, rfl, h⟩
  have HX := Lib.hid h
  clear h
  go_wp2_with fail
  go_ret
  exact ⟨_, rfl, HX.out.row ((Below.refl _ W).alloc (Nat.le_refl _) _) (by decide)⟩
set_option maxRecDepth 100000 in
set_option maxHeartbeats 4000000 in
theorem row9_c (W : World) : Calls Tryd.prog 19 #[.int .u8 9] W (RowR (rowL 9) W) := by
  have C := Lib.hid (family_c (first := 144) (many := 16) (by decide) iSwap 36 #[] (W.alloc (.cells #[.int .u8 144] 5 (0, 0))) enter_swap (fun i hi V _ => swap_c (n := i) (by omega) V))
  rw [show ((144 : Nat) : Int) = 144 from rfl, show ((16 : Nat) : Int) = 16 from rfl] at C
  go_enter Tryd.func19, Tryd.ntmps19
  go_wp2_with fail
  refine C.out.mono ?_
  rintro e V ⟨m, rfl, h⟩
  have HX := Lib.hid h
  clear h
  go_wp2_with fail
  go_ret
  exact ⟨_, rfl, HX.out.row ((Below.refl _ W).alloc (Nat.le_refl _) _) (by decide)⟩
set_option maxRecDepth 100000 in
set_option maxHeartbeats 4000000 in
theorem row10_c (W : World) : Calls Tryd.prog 19 #[.int .u8 10] W (RowR (rowL 10) W) := by
  have C := Lib.hid (family_c (first := 160) (many := 5) (by decide) iLog 37 #[] (W.alloc (.cells #[.int .u8 160] 5 (0, 0))) enter_log (fun i hi V _ => log_c (n := i) (by omega) V))
  rw [show ((160 : Nat) : Int) = 160 from rfl, show ((5 : Nat) : Int) = 5 from rfl] at C
  go_enter Tryd.func19, Tryd.ntmps19
  go_wp2_with fail
  refine C.out.mono ?_
  rintro e V ⟨m, rfl, h⟩
  have HX := Lib.hid h
  clear h
  go_wp2_with fail
  go_ret
  exact ⟨_, rfl, HX.out.row ((Below.refl _ W).alloc (Nat.le_refl _) _) (by decide)⟩
set_option maxRecDepth 100000 in
set_option maxHeartbeats 4000000 in
theorem row11_c (W : World) : Calls Tryd.prog 19 #[.int .u8 11] W (RowR (rowL 11) W) := by
  go_enter Tryd.func19, Tryd.ntmps19
  go_wp2_with fail
  go_ret
  exact ⟨_, rfl, (Below.refl _ W).alloc (Nat.le_refl _) _, Or.inl ⟨rfl, rfl⟩⟩
set_option maxRecDepth 100000 in
set_option maxHeartbeats 4000000 in
theorem row12_c (W : World) : Calls Tryd.prog 19 #[.int .u8 12] W (RowR (rowL 12) W) := by
  go_enter Tryd.func19, Tryd.ntmps19
  go_wp2_with fail
  go_ret
  exact ⟨_, rfl, (Below.refl _ W).alloc (Nat.le_refl _) _, Or.inl ⟨rfl, rfl⟩⟩
set_option maxRecDepth 100000 in
set_option maxHeartbeats 4000000 in
theorem row13_c (W : World) : Calls Tryd.prog 19 #[.int .u8 13] W (RowR (rowL 13) W) := by
  go_enter Tryd.func19, Tryd.ntmps19
  go_wp2_with fail
  go_ret
  exact ⟨_, rfl, (Below.refl _ W).alloc (Nat.le_refl _) _, Or.inl ⟨rfl, rfl⟩⟩
set_option maxRecDepth 100000 in
set_option maxHeartbeats 4000000 in
theorem row14_c (W : World) : Calls Tryd.prog 19 #[.int .u8 14] W (RowR (rowL 14) W) := by
  go_enter Tryd.func19, Tryd.ntmps19
  go_wp2_with fail
  go_ret
  exact ⟨_, rfl, (Below.refl _ W).alloc (Nat.le_refl _) _, Or.inl ⟨rfl, rfl⟩⟩
set_option maxRecDepth 100000 in
set_option maxHeartbeats 4000000 in
theorem row15_c (W : World) : Calls Tryd.prog 19 #[.int .u8 15] W (RowR (rowL 15) W) := by
  have C := Lib.hid (calling_c (W.alloc (.cells #[.int .u8 240] 5 (0, 0))))
  go_enter Tryd.func19, Tryd.ntmps19
  go_wp2_with fail
  refine C.out.mono ?_
  rintro e V ⟨m, rfl, h⟩
  have HX := Lib.hid h
  clear h
  go_wp2_with fail
  go_ret
  exact ⟨_, rfl, HX.out.row ((Below.refl _ W).alloc (Nat.le_refl _) _) (by decide)⟩
theorem row_c {h : Nat} (hh : h < 16) (W : World) : Calls Tryd.prog 19 #[.int .u8 (h : Nat)] W (RowR (rowL h) W) := by
  match h, hh with
  | 0, _ => exact row0_c W
  | 1, _ => exact row1_c W
  | 2, _ => exact row2_c W
  | 3, _ => exact row3_c W
  | 4, _ => exact row4_c W
  | 5, _ => exact row5_c W
  | 6, _ => exact row6_c W
  | 7, _ => exact row7_c W
  | 8, _ => exact row8_c W
  | 9, _ => exact row9_c W
  | 10, _ => exact row10_c W
  | 11, _ => exact row11_c W
  | 12, _ => exact row12_c W
  | 13, _ => exact row13_c W
  | 14, _ => exact row14_c W
  | 15, _ => exact row15_c W
  | n + 16, h => omega
end Go.Proofs.YtfcmcccfclaefaaDoor
