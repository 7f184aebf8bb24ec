/- Push; Of. -/
import Derived.Test.YtfcmcccfclaefaaDoorUf
import Derived.Deep.CutRange
namespace Go.Proofs.YtfcmcccfclaefaaDoor
open Go.RowKit Go.Maps Go.Shelf Mp

def pushN (c : Nat) : Nat := if 95 ≤ c ∧ c ≤ 127 then c - 95 else 0
def pushB (c : Nat) : Bool := decide (95 ≤ c ∧ c ≤ 127)
theorem pushN_le (c : Nat) : pushN c ≤ 32 := by unfold pushN; split <;> omega
set_option maxRecDepth 100000 in
theorem push_calls (c : Nat) (W : World) : Calls Tryd.prog 13 #[.int .u8 (c : Nat)] W fun e W' => e = .returned (.tuple #[.int .i64 (pushN c : Nat), .bool (pushB c)]) ∧ W = W' := by
  by_cases h : 95 ≤ c ∧ c ≤ 127
  · have e1 : pushN c = c - 95 := if_pos h
    have e2 : pushB c = true := decide_eq_true h
    obtain ⟨d, rfl⟩ : ∃ d, c = d + 95 := ⟨c - 95, by omega⟩
    rw [e1, e2, show d + 95 - 95 = d from by omega]
    have h1 : (95 : Int) ≤ ((d + 95 : Nat) : Int) := by omega
    have h2 : ((d + 95 : Nat) : Int) ≤ 127 := by omega
    have h3 : ((d + 95 : Nat) : Int) - 95 = (d : Int) := by omega
    clear e1 e2 h
    generalize ((d + 95 : Nat) : Int) = z at *
    go_enter Tryd.func13, Tryd.ntmps13
    go_wp2
    go_ret2
    exact ⟨rfl, rfl⟩
  · have e1 : pushN c = 0 := if_neg h
    have e2 : pushB c = false := decide_eq_false h
    rw [e1, e2]
    have h1 : (c : Int) < 95 ∨ 127 < (c : Int) := by omega
    clear e1 e2 h
    rcases h1 with h1 | h1
    · go_enter Tryd.func13, Tryd.ntmps13
      go_wp2
      go_ret2
      exact ⟨rfl, rfl⟩
    · have h2 : ¬ (c : Int) < 95 := by omega
      go_enter Tryd.func13, Tryd.ntmps13
      go_wp2
      go_ret2
      exact ⟨rfl, rfl⟩
def infO (o : Option Inf) : Array Value := o.elim infZ infC
theorem infO_cells (o : Option Inf) : ∃ (s : ByteArray) (g i u : Int), infO o = #[.string s, .int .u64 g, .int .i64 i, .int .i64 u] := by
  cases o with
  | none => exact ⟨_, _, _, _, rfl⟩
  | some v => exact ⟨_, _, _, _, rfl⟩
theorem look_row {l : List (Nat × Inf)} {W V : World} {mb : Option Nat} (h : RowAt l W mb V) {c : Nat} (hc : c < 256) :
    (Instr.lookup 48 (.map mb) (.int .u8 (c : Nat)) true).run Tryd.prog V = .ok (.tuple #[.agg (infO (tab l c)), .bool (tab l c).isSome]) V := by
  rcases h.2 with ⟨rfl, rfl⟩ | ⟨m, rfl, _, hm⟩
  · exact look_nil kitB (k := c) hc V true
  · have h1 := hm.look (k := c) hc true
    have e : (tab l c).elim kitB.z kitB.ev = .agg (infO (tab l c)) := by cases tab l c <;> rfl
    rw [if_pos rfl, e] at h1
    exact h1
set_option maxRecDepth 100000 in
set_option maxHeartbeats 4000000 in
theorem of_c {c : Nat} (hc : c < 256) (W : World) : Calls Tryd.prog 9 #[.int .u8 (c : Nat)] W fun e W' => e = .returned (.tuple #[.agg (infO (infoOf c)), .bool (infoOf c).isSome]) ∧ Below W.heap.size W W' := by
  have C := Lib.hid (row_c (h := c / 16) (by omega) (W.alloc (.cells infZ 25)))
  unfold infZ at C
  rw [show ((c / 16 : Nat) : Int) = (c : Int) / 16 % 256 from by omega] at C
  obtain ⟨s, g, i, u, hio⟩ := infO_cells (infoOf c)
  obtain ⟨z, hz⟩ : ∃ z, (infoOf c).isSome = z := ⟨_, rfl⟩
  rw [hio, hz]
  have HI := Lib.hid (And.intro hio hz)
  have HQ := Lib.hid hc
  clear hc hio hz
  go_enter Tryd.func9, Tryd.ntmps9
  go_wp2_with fail
  refine C.out.mono ?_
  rintro e V1 ⟨mb, rfl, hr⟩
  have HL := look_row hr HQ.out
  have hb1 : Below (W.heap.size + 1) (W.alloc (.cells #[.string ⟨#[]⟩, .int .u64 0, .int .i64 0, .int .i64 0] 25)) V1 := by
    have := hr.1
    rwa [alloc_size] at this
  have hbox : V1.heap[W.heap.size]? = some (.cells #[.string ⟨#[]⟩, .int .u64 0, .int .i64 0, .int .i64 0] 25 (0, 0)) := (hb1.block _ (by omega)).trans (heap_alloc_new _ _)
  have hbw : Below W.heap.size W V1 := ((Below.refl _ W).alloc (Nat.le_refl _) _).trans (hb1.mono (by omega))
  rw [show tab (rowL (c / 16)) c = infoOf c from rfl, HI.out.1, HI.out.2] at HL
  clear hr C hb1
  have hlt : W.heap.size < V1.heap.size := lt_of hbox
  have b0 := (Below.heap_alloc V1 (.cells #[.string s, .int .u64 g, .int .i64 i, .int .i64 u] 25 (0, 0)) _ hlt).trans hbox
  have hsz : (V1.alloc (.cells #[.string s, .int .u64 g, .int .i64 i, .int .i64 u] 25 (0, 0))).heap.size = V1.heap.size + 1 := alloc_size _ _
  have hbw2 : Below W.heap.size W (V1.alloc (.cells #[.string s, .int .u64 g, .int .i64 i, .int .i64 u] 25 (0, 0))) := hbw.alloc (by omega) _
  have HB := Lib.hid (And.intro b0 (And.intro hbw2 hlt))
  obtain ⟨⟨k0, k1, k2, k3⟩, f0, f1, f2, f3⟩ := cells4 b0
  have k4 := heap_alloc_new V1 (.cells #[.string s, .int .u64 g, .int .i64 i, .int .i64 u] 25 (0, 0))
  obtain ⟨⟨l0, l1, l2, l3⟩, _⟩ := cells4 k4
  clear b0 hbw2 hbox hbw k4 hsz
  go_upto_region 2 with fail
  generalize World.alloc V1 _ = V2 at *
  go_wp2_with fail
  have h2 := heap_set4 HB.out.1 (.string s) (.int .u64 g) (.int .i64 i) (.int .i64 u)
  refine bodyPost_ret (results_cell_slot Tryd.results9 _ _ _ _ _ _ _ _ rfl rfl h2 Tryd.underlying25 rfl (by kernel_rfl)) rfl ⟨rfl, below_set4 HB.out.2.1 (Nat.le_refl _) _ _ _ _⟩
end Go.Proofs.YtfcmcccfclaefaaDoor
