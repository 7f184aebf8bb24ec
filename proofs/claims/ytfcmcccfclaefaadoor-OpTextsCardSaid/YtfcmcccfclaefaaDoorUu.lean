/- OpJumps, plain: a push hides what follows it. -/
import Derived.Test.YtfcmcccfclaefaaDoorUn
namespace Go.Proofs.YtfcmcccfclaefaaDoor
open Go.RowKit Go.Maps Go.Shelf Mp

/-- The instructions of a code begun elsewhere: their places are moved, no more. -/
theorem insS_shift (d : Nat) : ∀ (n : Nat) (l : Nm) (a : Nat), l.length ≤ n → insS (a + d) l = (insS a l).map fun i => (i.1 + d, i.2)
  | _, [], a, _ => by rw [insS_nil, insS_nil]; rfl
  | 0, c :: r, a, h => by simp at h
  | n + 1, c :: r, a, h => by
    rw [insS_cons, insS_cons, List.map_cons]
    congr 1
    rw [← insS_shift d n (r.drop (pushN c.toNat)) (a + 1 + pushN c.toNat) (by rw [List.length_drop]; simp at h; omega)]
    congr 1
    omega
theorem dests_map (d : Nat) (p : List (Nat × Nm)) : destsOf (p.map fun i => (i.1 + d, i.2)) = (destsOf p).map (· + d) := by
  unfold destsOf
  rw [List.filter_map, List.map_map, List.map_map]
  rfl
theorem insS_at (l : Nm) : ∀ (n : Nat) (m : Nm) (a : Nat), m.length ≤ n → l.drop a = m → ∀ i ∈ insS a m, i.1 < l.length ∧ l[i.1]? = i.2.head?
  | _, [], a, _, _ => by rw [insS_nil]; intro i hi; cases hi
  | 0, c :: r, a, h, _ => by simp at h
  | n + 1, c :: r, a, h, hd => by
    rw [insS_cons]
    intro i hi
    rcases List.mem_cons.1 hi with rfl | hi
    · have h1 : l[a]? = some c := by
        have := congrArg (fun t => t[0]?) hd
        simpa [List.getElem?_drop] using this
      exact ⟨(List.getElem?_eq_some_iff.1 h1).1, h1⟩
    · refine insS_at l n _ _ (by rw [List.length_drop]; simp at h; omega) ?_ i hi
      have : l.drop (a + 1) = r := by
        have := congrArg List.tail hd
        simpa [List.tail_drop] using this
      rw [← this, List.drop_drop]
theorem insS_len : ∀ (n : Nat) (l : Nm) (a : Nat), l.length ≤ n → (insS a l).length ≤ l.length
  | _, [], a, _ => by rw [insS_nil]; exact Nat.le_refl _
  | 0, c :: r, a, h => by simp at h
  | n + 1, c :: r, a, h => by
    rw [insS_cons, List.length_cons, List.length_cons]
    have h1 := insS_len n (r.drop (pushN c.toNat)) (a + 1 + pushN c.toNat) (by rw [List.length_drop]; simp at h; omega)
    rw [List.length_drop] at h1
    omega
theorem below_drewN {B : Nat} {a w : World} (h : Below B a w) (n : Nat) : Below B a (w.drewN n) := ⟨h.os, h.tape, h.output, h.size, h.block⟩
theorem dests_at {l : Nm} {j x : Nat} (h : (destsOf (insS 0 l))[j]? = some x) : l[x]? = some 91 := by
  have hm := List.mem_of_getElem? h
  unfold destsOf at hm
  obtain ⟨i, hi, rfl⟩ := List.mem_map.1 hm
  obtain ⟨h1, h2⟩ := List.mem_filter.1 hi
  rw [(insS_at l l.length l 0 (Nat.le_refl _) rfl i h1).2]
  simpa [isDest] using h2
/-- A push of k bytes, its bytes, and more behind. -/
theorem dests_push {k : Nat} (hk : k ≤ 32) (b more : Nm) (hb : b.length = k) : destsOf (insS 0 ([UInt8.ofNat (95 + k)] ++ b ++ more)) = (destsOf (insS 0 more)).map (· + (1 + k)) := by
  have hc : (UInt8.ofNat (95 + k)).toNat = 95 + k := by rw [UInt8.toNat_ofNat']; omega
  have hp : pushN (UInt8.ofNat (95 + k)).toNat = k := by rw [hc, pushN, if_pos (by omega)]; omega
  rw [show [UInt8.ofNat (95 + k)] ++ b ++ more = UInt8.ofNat (95 + k) :: (b ++ more) from rfl, insS_cons, hp, List.drop_left' hb]
  have e : destsOf ((0, UInt8.ofNat (95 + k) :: List.take k (b ++ more)) :: insS (0 + 1 + k) more) = destsOf (insS (0 + 1 + k) more) := by
    unfold destsOf
    rw [List.filter_cons_of_neg]
    simp only [isDest, List.head?_cons, Bool.not_eq_true, beq_eq_false_iff_ne, ne_eq, Option.some.injEq]
    intro e
    have := congrArg UInt8.toNat e
    rw [hc] at this
    have h91 : (91 : UInt8).toNat = 91 := rfl
    omega
  have hs := insS_shift (1 + k) more.length more 0 (Nat.le_refl _)
  rw [e, Nat.zero_add]
  rw [Nat.zero_add] at hs
  rw [hs, dests_map]
end Go.Proofs.YtfcmcccfclaefaaDoor
