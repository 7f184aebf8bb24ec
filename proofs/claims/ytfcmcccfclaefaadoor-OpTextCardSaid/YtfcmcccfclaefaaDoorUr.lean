/- The reference's digits, Push. -/
import Derived.Test.YtfcmcccfclaefaaDoorUq
import Derived.Lib.ConvBytes
namespace Go.Proofs.YtfcmcccfclaefaaDoor
open Go.RowKit Go.Maps Go.Shelf Mp

theorem conv_at {V : World} {q cap : Nat} {l : Nm} (h : ∀ j u, (Lib.byteCells l)[j]? = some u → V.cell? ⟨q, j, none⟩ = some u) :
    (convert 42 9 (.slice (some ⟨q, 0, none⟩) l.length cap)).run Tryd.prog V = .ok (.string (str l)) V :=
  run_convert_bytes_back V 42 9 5 ⟨q, 0, none⟩ cap l Tryd.underlying42 Tryd.underlying5 Tryd.underlying9 (fun j hj => by
    have e : (⟨q, 0, none⟩ : Addr).add j = ⟨q, j, none⟩ := by unfold Addr.add; split <;> simp_all
    rw [e]
    exact h j _ (by simp [Lib.byteCells, List.getElem?_eq_getElem hj]))
theorem conv_new (W : World) {cs : Array Value} {l : Nm} (h : cs = (Lib.byteCells l).toArray) (n : Nat) (hn : n = l.length) :
    (convert 42 9 (.slice (some ⟨W.heap.size, 0, none⟩) n n)).run Tryd.prog (W.alloc (.cells cs 5)) = .ok (.string (str l)) (W.alloc (.cells cs 5)) := by
  subst h hn
  refine conv_at fun j u hj => ?_
  rw [cell_of (heap_alloc_new W (.cells (Lib.byteCells l).toArray 5 (0, 0))) j]
  simpa using hj
theorem u8_at {k : Nat} (h : k < 256) : ((UInt8.ofNat k).toNat : Int) = (k : Int) := by
  rw [UInt8.toNat_ofNat']
  omega
set_option maxRecDepth 100000 in
set_option maxHeartbeats 4000000 in
theorem rdigits_c {n : Nat} (hn : n < 100) (W : World) : Calls Tryd.prog 40 #[.int .i64 (n : Nat)] W fun e W' => e = .returned (.string (str (dec n))) ∧ Below W.heap.size W W' := by
  by_cases h : n < 10
  · have hh : (n : Int) < 10 := by omega
    have e1 : dec n = [UInt8.ofNat (48 + n)] := if_pos h
    have hcv := conv_new W (cs := #[.int .u8 (48 + (n : Int))]) (l := dec n) (by rw [e1]; show _ = #[Value.int .u8 ((UInt8.ofNat (48 + n)).toNat : Int)]; rw [u8_at (by omega)]; rfl) 1 (by rw [e1]; rfl)
    generalize str (dec n) = y at *
    clear e1
    go_enter Tryd.func40, Tryd.ntmps40
    go_wp2_with fail
    go_ret
    exact ⟨rfl, (Below.refl _ _).alloc (Nat.le_refl _) _⟩
  · have hh : ¬ (n : Int) < 10 := by omega
    have e1 : dec n = [UInt8.ofNat (48 + n / 10), UInt8.ofNat (48 + n % 10)] := if_neg h
    have hcv := conv_new W (cs := #[.int .u8 (48 + (n : Int) / 10), .int .u8 (48 + (n : Int) % 10)]) (l := dec n) (by rw [e1]; show _ = #[Value.int .u8 ((UInt8.ofNat (48 + n / 10)).toNat : Int), Value.int .u8 ((UInt8.ofNat (48 + n % 10)).toNat : Int)]; rw [u8_at (by omega), u8_at (by omega)]; rfl) 2 (by rw [e1]; rfl)
    generalize str (dec n) = y at *
    clear e1
    go_enter Tryd.func40, Tryd.ntmps40
    go_wp2_with fail
    go_ret
    exact ⟨rfl, (Below.refl _ _).alloc (Nat.le_refl _) _⟩
set_option maxRecDepth 100000 in
theorem rpush_calls (c : Nat) (hc : c < 256) (W : World) : Calls Tryd.prog 14 #[.int .u8 (c : Nat)] W fun e W' => e = .returned (.tuple #[.int .i64 (pushN c : Nat), .bool (pushB c)]) ∧ W = W' := by
  by_cases h : 95 ≤ c ∧ c ≤ 127
  · have e1 : pushN c = c - 95 := if_pos h
    have e2 : pushB c = true := decide_eq_true h
    obtain ⟨d, rfl⟩ : ∃ d, c = d + 95 := ⟨c - 95, by omega⟩
    rw [e1, e2, show d + 95 - 95 = d from by omega]
    have h1 : (95 : Int) ≤ ((d + 95 : Nat) : Int) := by omega
    have h2 : ((d + 95 : Nat) : Int) ≤ 127 := by omega
    have h3 : ((d + 95 : Nat) : Int) - 95 = (d : Int) := by omega
    clear e1 e2 h hc
    generalize ((d + 95 : Nat) : Int) = z at *
    go_enter Tryd.func14, Tryd.ntmps14
    go_wp2
    go_ret2
    exact ⟨rfl, rfl⟩
  · have e1 : pushN c = 0 := if_neg h
    have e2 : pushB c = false := decide_eq_false h
    rw [e1, e2]
    have h1 : (c : Int) < 95 ∨ 127 < (c : Int) := by omega
    clear e1 e2 h
    rcases h1 with h1 | h1
    · go_enter Tryd.func14, Tryd.ntmps14
      go_wp2
      go_ret2
      exact ⟨rfl, rfl⟩
    · have h2 : ¬ (c : Int) < 95 := by omega
      go_enter Tryd.func14, Tryd.ntmps14
      go_wp2
      go_ret2
      exact ⟨rfl, rfl⟩
end Go.Proofs.YtfcmcccfclaefaaDoor
