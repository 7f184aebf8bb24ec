/- Words in a slice among a law's arguments. -/
import Derived.Test.YtfcmcccfclaefaaDoorUPlain
import Derived.Test.YtfcmcccfclaefaaDoorUbc
namespace Go.Proofs.YtfcmcccfclaefaaDoor
open Go.ChangeShapes Go.WideShapes Go.ChangeAt Go.RowKit

theorem lt_of_cell {W : World} {b j : Nat} {u : Value} (h : W.cell? ⟨b, j, none⟩ = some u) : b < W.heap.size := by
  rcases Nat.lt_or_ge b W.heap.size with h1 | h1
  · exact h1
  · simp [World.cell?, Array.getElem?_eq_none h1] at h
section
variable {H : Type} {enc : TypeId × Value → H} {w : World} {base : Nat} {held : Bool} {r : Reach} {b0 : Nat} {v : Value} {d : DataW H} {p : List MemPlace}
theorem open_u16s (hv : Value.okWide Tryd.prog w r b0 44 v) (h : DataW.Trod enc Tryd.prog w base (fun _ => true) held 44 v d p) :
    ∃ (pa : Option Addr) (len cap : Nat) (ws : List Nat), v = .slice pa len cap ∧ Hw w pa ws ∧ ws.length = len ∧ len ≤ cap ∧ (pa = none → cap = 0) ∧ ∀ x ∈ ws, x < 65536 := by
  obtain ⟨a0, len, cap, rfl⟩ := okWide_slice Tryd.underlying44 hv
  obtain ⟨fuel, hf⟩ := h
  rcases open_ints Tryd.underlying44 Tryd.underlying45 (by kernel_rfl) hf with ⟨hcs, hx⟩ | ⟨a, len', cap', zs, hcs, _, hl, hm, hz, hx, hcell, hwz⟩
  · simp [Value.cells] at hcs
    obtain ⟨rfl, rfl, rfl⟩ := hcs
    exact ⟨none, 0, 0, [], rfl, fun i x hi => by simp at hi, rfl, Nat.le_refl _, fun _ => rfl, by simp⟩
  · simp [Value.cells] at hcs
    obtain ⟨rfl, rfl, rfl⟩ := hcs
    simp only [if_true] at hz
    refine ⟨some a, len, cap, (zs.take len).map Int.toNat, rfl, fun i x hi => ?_, by simp; omega, hl, fun h => (by cases h), fun x hx => ?_⟩
    · have hil : i < len := by
        rcases Nat.lt_or_ge i len with h | h
        · exact h
        · rw [List.getElem?_eq_none (by simp; omega)] at hi; cases hi
      obtain ⟨b, off, rfl, hc⟩ := ints_at hcell (by omega)
      have h1 := hc i (by omega)
      refine ⟨b, off, rfl, lt_of_cell h1, ?_⟩
      rw [h1]
      have hg : zs[i]? = some (zs.getD i 0) := by rw [List.getD_eq_getElem?_getD, List.getElem?_eq_getElem (by omega)]; rfl
      rw [List.getElem?_map, List.getElem?_take_of_lt hil, hg] at hi
      simp only [Option.map_some, Option.some.injEq] at hi
      obtain ⟨k, hk, _⟩ := u16_of (hwz (zs.getD i 0) (List.mem_of_getElem? hg))
      rw [← hi, hk]
      rfl
    · obtain ⟨y, hy, rfl⟩ := List.mem_map.1 hx
      obtain ⟨k, hk, hb⟩ := u16_of (hwz y (List.mem_of_mem_take hy))
      rw [hk]
      exact hb
end
theorem textLaw_c {pa : Option Addr} {len cap : Nat} {ws0 : List Nat} {W : World} (y : Bool) (hA : Hw W pa ws0) (hl : ws0.length = len) (hc : len ≤ cap) (hn : pa = none → cap = 0) (hok : ∀ w ∈ ws0, w < 65536) :
    Calls Tryd.prog 7 #[.slice pa len cap, .bool y] W fun e W' => e = .returned (.bool true) ∧ Below W.heap.size W W' := by
  cases y with
  | true => exact text_true hA hl hc hn hok
  | false => exact text_false hA hl hc hn hok
end Go.Proofs.YtfcmcccfclaefaaDoor
