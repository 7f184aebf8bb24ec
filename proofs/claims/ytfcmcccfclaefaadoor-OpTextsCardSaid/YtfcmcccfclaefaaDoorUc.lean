/- Numbers in digits; the closures of package op's families. -/
import Derived.Test.YtfcmcccfclaefaaDoorUb
namespace Go.Proofs.YtfcmcccfclaefaaDoor
open Go.RowKit Go.Maps Mp

def dec (n : Nat) : Nm := if n < 10 then [UInt8.ofNat (48 + n)] else [UInt8.ofNat (48 + n / 10), UInt8.ofNat (48 + n % 10)]
theorem ext10 (c : ByteArray) (hc : (List.range 10).all (fun k => decide (c.extract k (k + 1) = str (dec k))) = true) {n : Nat} (h : n < 10) : c.extract n (n + 1) = str (dec n) :=
  of_decide_eq_true (List.all_eq_true.1 hc n (List.mem_range.2 h))
theorem ext100 (c : ByteArray) (hc : (List.range 100).all (fun k => decide (k < 10) || decide (c.extract (k * 2) (k * 2 + 2) = str (dec k))) = true) {n : Nat} (h : n < 100) (h2 : ¬ n < 10) : c.extract (n * 2) (n * 2 + 2) = str (dec n) := by
  have h1 := List.all_eq_true.1 hc n (List.mem_range.2 h)
  simpa [h2] using h1
set_option maxRecDepth 100000 in
set_option maxHeartbeats 4000000 in
theorem small_c {n : Nat} (hn : n < 100) (W : World) : Calls Tryd.prog 50 #[.int .i64 (n : Nat)] W fun e W' => e = .returned (.string (str (dec n))) ∧ W = W' := by
  by_cases h : n < 10
  · go_enter Tryd.func50, Tryd.ntmps50
    go_wp2
    go_ret
    refine ⟨congrArg (fun s => Ending.returned (.string s)) ?_, rfl⟩
    exact ext10 _ (by decide +kernel) h
  · go_enter Tryd.func50, Tryd.ntmps50
    go_wp2
    go_ret
    refine ⟨congrArg (fun s => Ending.returned (.string s)) ?_, rfl⟩
    exact ext100 _ (by decide +kernel) hn h
set_option maxRecDepth 100000 in
theorem formatInt_c {n : Nat} (hn : n < 100) (W : World) : Calls Tryd.prog 47 #[.int .i64 (n : Nat), .int .i64 10] W fun e W' => e = .returned (.string (str (dec n))) ∧ W = W' := by
  go_enter Tryd.func47, Tryd.ntmps47
  go_wp2_with (go_at_call 50; refine (small_c hn _).mono ?_; rintro e w1 ⟨rfl, rfl⟩)
  go_ret
  exact ⟨rfl, rfl⟩
theorem itoaI_c {n : Nat} (hn : n < 100) (W : World) : Calls Tryd.prog 43 #[.int .i64 (n : Nat)] W fun e W' => e = .returned (.string (str (dec n))) ∧ W = W' := by
  go_enter Tryd.func43, Tryd.ntmps43
  go_wp2_with (go_at_call 47; refine (formatInt_c hn _).mono ?_; rintro e w1 ⟨rfl, rfl⟩)
  go_ret
  exact ⟨rfl, rfl⟩
theorem itoa_c {n : Nat} (hn : n < 100) (W : World) : Calls Tryd.prog 34 #[.int .i64 (n : Nat)] W fun e W' => e = .returned (.string (str (dec n))) ∧ W = W' := by
  go_enter Tryd.func34, Tryd.ntmps34
  go_wp2_with (go_at_call 43; refine (itoaI_c hn _).mono ?_; rintro e w1 ⟨rfl, rfl⟩)
  go_ret
  exact ⟨rfl, rfl⟩
theorem dec_size (n : Nat) : (str (dec n)).size ≤ 2 := by
  rw [str_size]
  unfold dec
  split <;> simp
/-! The families: what their closures tell. -/
def iPush (i : Nat) : Inf := ⟨[80, 85, 83, 72] ++ dec i, 3, 0, 1⟩
def iDup (i : Nat) : Inf := ⟨[68, 85, 80] ++ dec (i + 1), 3, i + 1, i + 2⟩
def iSwap (i : Nat) : Inf := ⟨[83, 87, 65, 80] ++ dec (i + 1), 3, i + 2, i + 2⟩
def iLog (i : Nat) : Inf := ⟨[76, 79, 71] ++ dec i, 375, i + 2, 0⟩
theorem str_app (a b : Nm) : str a ++ str b = str (a ++ b) := by
  apply ByteArray.ext
  simp [str]
set_option maxRecDepth 100000 in
set_option maxHeartbeats 4000000 in
theorem dup_c {n : Nat} (hn : n < 16) (W : World) : Calls Tryd.prog 35 #[.int .i64 (n : Nat)] W fun e W' => e = .returned (.agg (infC (iDup n))) ∧ Below W.heap.size W W' := by
  have C := Lib.hid (fun V => itoa_c (n := n + 1) (by omega) V)
  have hz : (str (dec (n + 1))).size ≤ 2 := dec_size _
  have hs : ({ data := #[68, 85, 80] } : ByteArray) ++ str (dec (n + 1)) = str ([68, 85, 80] ++ dec (n + 1)) := str_app _ _
  generalize str (dec (n + 1)) = s1 at C hs hz
  generalize hS : str ([68, 85, 80] ++ dec (n + 1)) = s2 at hs
  have HS := Lib.hid hS
  clear hS
  go_enter Tryd.func35, Tryd.ntmps35
  go_wp2_with (go_at_call 34; refine (C.out _).mono ?_; rintro e w1 ⟨rfl, rfl⟩)
  have hb := heap_alloc_new W (.cells #[.string s2, .int .u64 3, .int .i64 (n + 1), .int .i64 (n + 2)] 25 (0, 0))
  refine bodyPost_ret (results_cell_row Tryd.results35 _ _ _ _ _ _ _ rfl hb Tryd.underlying25 rfl (by kernel_rfl)) rfl ⟨?_, (Below.refl _ W).alloc (Nat.le_refl _) _⟩
  rw [← HS.out]
  rfl
set_option maxRecDepth 100000 in
set_option maxHeartbeats 4000000 in
theorem swap_c {n : Nat} (hn : n < 16) (W : World) : Calls Tryd.prog 36 #[.int .i64 (n : Nat)] W fun e W' => e = .returned (.agg (infC (iSwap n))) ∧ Below W.heap.size W W' := by
  have C := Lib.hid (fun V => itoa_c (n := n + 1) (by omega) V)
  have hz : (str (dec (n + 1))).size ≤ 2 := dec_size _
  have hs : ({ data := #[83, 87, 65, 80] } : ByteArray) ++ str (dec (n + 1)) = str ([83, 87, 65, 80] ++ dec (n + 1)) := str_app _ _
  generalize str (dec (n + 1)) = s1 at C hs hz
  generalize hS : str ([83, 87, 65, 80] ++ dec (n + 1)) = s2 at hs
  have HS := Lib.hid hS
  clear hS
  go_enter Tryd.func36, Tryd.ntmps36
  go_wp2_with (go_at_call 34; refine (C.out _).mono ?_; rintro e w1 ⟨rfl, rfl⟩)
  have hb := heap_alloc_new W (.cells #[.string s2, .int .u64 3, .int .i64 (n + 2), .int .i64 (n + 2)] 25 (0, 0))
  refine bodyPost_ret (results_cell_row Tryd.results36 _ _ _ _ _ _ _ rfl hb Tryd.underlying25 rfl (by kernel_rfl)) rfl ⟨?_, (Below.refl _ W).alloc (Nat.le_refl _) _⟩
  rw [← HS.out]
  rfl
set_option maxRecDepth 100000 in
set_option maxHeartbeats 4000000 in
theorem log_c {n : Nat} (hn : n < 16) (W : World) : Calls Tryd.prog 37 #[.int .i64 (n : Nat)] W fun e W' => e = .returned (.agg (infC (iLog n))) ∧ Below W.heap.size W W' := by
  have C := Lib.hid (fun V => itoa_c (n := n) (by omega) V)
  have hz : (str (dec (n))).size ≤ 2 := dec_size _
  have hs : ({ data := #[76, 79, 71] } : ByteArray) ++ str (dec (n)) = str ([76, 79, 71] ++ dec (n)) := str_app _ _
  generalize str (dec (n)) = s1 at C hs hz
  generalize hS : str ([76, 79, 71] ++ dec (n)) = s2 at hs
  have HS := Lib.hid hS
  clear hS
  go_enter Tryd.func37, Tryd.ntmps37
  go_wp2_with (go_at_call 34; refine (C.out _).mono ?_; rintro e w1 ⟨rfl, rfl⟩)
  have hb := heap_alloc_new W (.cells #[.string s2, .int .u64 375, .int .i64 (n + 2), .int .i64 0] 25 (0, 0))
  refine bodyPost_ret (results_cell_row Tryd.results37 _ _ _ _ _ _ _ rfl hb Tryd.underlying25 rfl (by kernel_rfl)) rfl ⟨?_, (Below.refl _ W).alloc (Nat.le_refl _) _⟩
  rw [← HS.out]
  rfl
end Go.Proofs.YtfcmcccfclaefaaDoor
