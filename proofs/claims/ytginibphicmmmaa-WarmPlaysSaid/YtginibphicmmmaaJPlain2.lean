/- Slices among a law's arguments: bytes, logs. -/
import Derived.Test.YtginibphicmmmaaJPlain
import Derived.Test.YtginibphicmmmaaJr
import Derived.Deep.SlicePairs
namespace Go.Proofs.Ytginibphicmmmaa
open Go.ChangeShapes Go.WideShapes Go.ChangeAt Go.RowKit Go.Deep Go.Joins
set_option maxRecDepth 100000

section
variable {H : Type} {enc : TypeId × Value → H} {w : World} {base : Nat} {held : Bool}
theorem weights_all' {P : Program} {e : TypeId} {l : List (DataW H)} {d : DataW H} (hd : d ∈ l) {n : Nat} (hn : n ∈ d.weights P e) : n ∈ DataW.weightsAll P e l := by
  induction l with
  | nil => cases hd
  | cons x l ih =>
    simp only [DataW.weightsAll, List.mem_append]
    rcases List.mem_cons.1 hd with rfl | hd
    · exact Or.inl hn
    · exact Or.inr (ih hd)
/-- Rows of n cells in a slice. -/
def RowsIs {α : Type} (w : World) (n : Nat) (cells : α → List Value) (Ok : α → Prop) (pa : Option Addr) (l : List α) : Prop :=
  l = [] ∨ ∃ g o, pa = some ⟨g, o, none⟩ ∧ g < w.heap.size ∧ ∀ (i : Nat) (u : α), l[i]? = some u → Ok u ∧ ∀ j, j < n → w.cell? ⟨g, o + i * n + j, none⟩ = (cells u)[j]?
theorem open_rowsT {St T : TypeId} {n : Nat} {α : Type} [Inhabited α] (hu : Try.prog.underlying St = some (.slice T)) (hn : Try.prog.cellsOf T = n) (h0n : 0 < n) (cells : α → List Value) (Ok : α → Prop)
    {fuel : Nat} {cs : List Value} {d : DataW H} {p : List MemPlace} (h : DataW.trod enc Try.prog w base (fun _ => true) held fuel St cs = some (d, p)) (hz : ∀ x ∈ d.weights Try.prog St, x ≤ reachBytes)
    (hel : ∀ (m : Nat) (cs' : List Value) (d' : DataW H) (p' : List MemPlace), cs'.length = n → DataW.trod enc Try.prog w base (fun _ => true) held m T cs' = some (d', p') → (∀ x ∈ d'.weights Try.prog T, x ≤ reachBytes) → ∃ u, Ok u ∧ cs' = cells u) :
    ∃ (pa : Option Addr) (pc : Nat) (l : List α), cs = [.slice pa l.length pc] ∧ RowsIs w n cells Ok pa l ∧ l.length * Try.prog.bytesOf T ≤ reachBytes ∧ l.length ≤ pc ∧ (pa = none → pc = 0) := by
  rcases Go.Deep.open_slice hu h with ⟨rfl, _⟩ | ⟨a, len, cap, m, k, D, Pl, rfl, _, hl, hm0, hm, hx, hall⟩
  · exact ⟨none, 0, [], rfl, Or.inl rfl, by simp, Nat.le_refl _, fun _ => rfl⟩
  · simp only [if_true] at hm
    subst hm
    simp only [Prod.mk.injEq] at hx
    obtain ⟨rfl, _⟩ := hx
    have hlen : len * Try.prog.bytesOf T ≤ reachBytes := by
      have h1 := hz ((((List.range len).map D).length + ((List.range (m - len)).map fun j => D (len + j)).length) * Try.prog.bytesOf T) (by
        simp only [DataW.weights, hu]
        exact List.mem_cons_self ..)
      rw [List.length_map, List.length_map, List.length_range, List.length_range] at h1
      exact Nat.le_trans (Nat.mul_le_mul_right _ (Nat.le_add_right _ _)) h1
    by_cases h0 : len = 0
    · subst h0
      exact ⟨some a, m, [], rfl, Or.inl rfl, by simp, Nat.zero_le _, fun h => by cases h⟩
    · have each : ∀ i, i < len → ∃ u : α, Ok u ∧ ∀ j, j < n → w.cell? (a.add (i * n + j)) = (cells u)[j]? := by
        intro i hi
        obtain ⟨cs', h1, h2⟩ := hall i (by omega)
        rw [hn] at h1
        obtain ⟨_, hl', hcell⟩ := World.cells?_some h1
        have hD : D i ∈ (List.range len).map D := List.mem_map.2 ⟨i, List.mem_range.2 hi, rfl⟩
        obtain ⟨u, hu1, rfl⟩ := hel _ _ _ _ hl' h2 (fun x hx => hz x (by
          simp only [DataW.weights, hu]
          exact List.mem_cons_of_mem _ (List.mem_append_left _ (weights_all' hD hx))))
        exact ⟨u, hu1, fun j hj => by rw [← Go.Deep.add_add]; exact hcell j hj⟩
      obtain ⟨f, hfu⟩ := Go.Deep.choose_lt each
      have hlen2 : ((List.range len).map f).length = len := by rw [List.length_map, List.length_range]
      obtain ⟨g, o, spot⟩ := a
      have c0 : ∃ v, w.cell? (Addr.add ⟨g, o, spot⟩ (0 * n + 0)) = some v := by
        obtain ⟨cs', h1, _⟩ := hall 0 (by omega)
        rw [hn] at h1
        obtain ⟨_, hl', hcell⟩ := World.cells?_some h1
        have e0 := hcell 0 h0n
        rw [Go.Deep.add_add] at e0
        exact ⟨cs'[0]'(by omega), by rw [e0, List.getElem?_eq_getElem]⟩
      obtain ⟨v0, c0⟩ := c0
      have hspot : spot = none := by simpa [Addr.add] using World.cell?_spot c0
      subst hspot
      have hg : g < w.heap.size := by
        rcases Nat.lt_or_ge g w.heap.size with h' | h'
        · exact h'
        · simp [World.cell?, Addr.add, Array.getElem?_eq_none h'] at c0
      refine ⟨some ⟨g, o, none⟩, m, (List.range len).map f, by rw [hlen2], Or.inr ⟨g, o, rfl, hg, fun i u hu => ?_⟩, by rw [hlen2]; exact hlen, by rw [hlen2]; exact hl, fun h => by cases h⟩
      have hi : i < len := by
        rcases Nat.lt_or_ge i len with h | h
        · exact h
        · rw [List.getElem?_eq_none (by rw [hlen2]; exact h)] at hu; cases hu
      obtain rfl : f i = u := by simpa [hi] using hu
      refine ⟨(hfu i hi).1, fun j hj => ?_⟩
      have := (hfu i hi).2 j hj
      rw [Go.WideShapes.add_plain, ← Nat.add_assoc] at this
      exact this
end
theorem open_u8s {H : Type} {enc : TypeId × Value → H} {w : World} {base : Nat} {held : Bool} {r : Reach} {b0 : Nat} {v : Value} {d : DataW H} {p : List MemPlace}
    (hv : Value.okWide Try.prog w r b0 55 v) (h : DataW.Trod enc Try.prog w base (fun _ => true) held 55 v d p) (hz : ∀ {x}, x ∈ d.weights Try.prog 55 → x ≤ reachBytes) :
    ∃ (a : Option Addr) (c : Nat) (xs : List Nat), v = .slice a xs.length c ∧ U8s w a xs ∧ xs.length ≤ c ∧ (a = none → c = 0) := by
  obtain ⟨a0, len, cap, rfl⟩ := okWide_slice Try.underlying55 hv
  obtain ⟨fuel, h⟩ := h
  obtain ⟨pa, pc, l, e, hR, _, hc, hn⟩ := open_rowsT (St := 55) (T := 5) (n := 1) Try.underlying55 (by kernel_rfl) (by omega) (fun u : Nat => [.int .u8 (u : Nat)]) (fun u => u < 256) h (fun x hx => hz hx) (fun m cs' d' p' hl ht _ => by
    match cs', hl with
    | [v], _ =>
      cases m with
      | zero => simp [DataW.trod] at ht
      | succ m =>
        obtain ⟨n0, e0, _, w0⟩ := DataW.trod_int Try.underlying5 ht
        obtain ⟨n0, rfl, b0⟩ := u8_of w0
        simp at e0
        subst e0
        exact ⟨n0, b0, rfl⟩)
  cases e
  refine ⟨_, _, l, rfl, fun i u hu => ?_, hc, hn⟩
  rcases hR with rfl | ⟨g, o, rfl, hg, hall⟩
  · simp at hu
  · obtain ⟨h1, h2⟩ := hall i u hu
    have h3 := h2 0 (by omega)
    rw [Nat.mul_one, Nat.add_zero] at h3
    exact ⟨h1, g, o, rfl, hg, h3⟩
end Go.Proofs.Ytginibphicmmmaa
