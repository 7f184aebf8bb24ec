/- WarmMarks: addresses that are met, in plain words; a slice that is cut. -/
import Derived.Test.YtginibphicmmmaaJp
namespace Go.Proofs.Ytginibphicmmmaa
open Go.RowKit Go.Maps Go.Shelf Mp

theorem slice_head {T E : TypeId} (hu : Try.prog.underlying T = some (.slice E)) {z : Nat} (hz : ∀ w, (sizeOf E).run Try.prog w = .ok z w) (pa : Option Addr) (len N cap : Nat) (hN : N ≤ cap) (hp : pa = none → cap = 0) (W : World) :
    (Instr.slice T (.slice pa len cap) none (some (.int .i64 (N : Nat))) none).run Try.prog W = .ok (.slice pa N cap) W := by
  have h1 : (N : Int) ≤ (cap : Int) := by omega
  have he : Try.prog.elem T = E := by simp [Program.elem, hu]
  have hu2 : Try.prog.underlying T = some (.slice (Try.prog.elem T)) := by rw [he]; exact hu
  cases pa with
  | none =>
    obtain rfl := hp rfl
    obtain rfl : N = 0 := by omega
    go_simp
  | some a =>
    go_simp
/-- a, b, c. -/
def adr (k : Nat) : Nm := [(97 + k.toUInt8)]
theorem adr_inj {k j : Nat} (hk : k < 3) (hj : j < 3) (h : adr k = adr j) : k = j := by
  have hk' : k = 0 ∨ k = 1 ∨ k = 2 := by omega
  have hj' : j = 0 ∨ j = 1 ∨ j = 2 := by omega
  rcases hk' with rfl | rfl | rfl <;> rcases hj' with rfl | rfl | rfl <;> first | rfl | (exfalso; revert h; decide)
/-- The changes, once these were met, the newest first. -/
def mkL : List Nat → List Cg
  | [] => []
  | k :: ks => if k ∈ ks then mkL ks else .gone (adr k) :: .addr (adr k) :: mkL ks
theorem mk_pl {k : Nat} (hk : k < 3) : ∀ {ks : List Nat}, (∀ j ∈ ks, j < 3) → hasBy plOf (mkL ks) ⟨adr k, true, Wq.zero⟩ = if k ∈ ks then some () else none
  | [], _ => by rw [show mkL [] = [] from rfl, hasBy_nil]; simp
  | j :: ks, h => by
    have ih := mk_pl hk (ks := ks) fun i hi => h i (List.mem_cons_of_mem _ hi)
    have hj := h j (List.mem_cons_self ..)
    unfold mkL
    by_cases hm : j ∈ ks
    · rw [if_pos hm, ih]
      by_cases e : k = j
      · subst e; simp [hm]
      · simp [e]
    · rw [if_neg hm, hasBy_none rfl, hasBy_some (k := (⟨adr j, true, Wq.zero⟩ : Pl)) rfl]
      by_cases e : k = j
      · subst e; rw [upf_same]; simp
      · rw [upf_other _ _ (fun h => e (adr_inj hk hj (congrArg Pl.addr h))), ih]; simp [e]
theorem mk_gn {k : Nat} (hk : k < 3) : ∀ {ks : List Nat}, (∀ j ∈ ks, j < 3) → hasBy gnOf (mkL ks) (adr k) = if k ∈ ks then some () else none
  | [], _ => by rw [show mkL [] = [] from rfl, hasBy_nil]; simp
  | j :: ks, h => by
    have ih := mk_gn hk (ks := ks) fun i hi => h i (List.mem_cons_of_mem _ hi)
    have hj := h j (List.mem_cons_self ..)
    unfold mkL
    by_cases hm : j ∈ ks
    · rw [if_pos hm, ih]
      by_cases e : k = j
      · subst e; simp [hm]
      · simp [e]
    · rw [if_neg hm, hasBy_some (k := adr j) rfl, hasBy_none rfl]
      by_cases e : k = j
      · subst e; rw [upf_same]; simp
      · rw [upf_other _ _ (fun h => e (adr_inj hk hj h)), ih]; simp [e]
theorem mk_step {k : Nat} (hk : k < 3) {ks : List Nat} (h : ∀ j ∈ ks, j < 3) : noteBy gnOf (.gone (adr k)) (adr k) (noteBy plOf (.addr (adr k)) ⟨adr k, true, Wq.zero⟩ (mkL ks)) = mkL (k :: ks) := by
  have h1 := mk_pl hk h
  have h2 := mk_gn hk h
  unfold noteBy
  rw [h1]
  by_cases hm : k ∈ ks
  · rw [if_pos hm] at h1 h2 ⊢
    simp only [Option.isSome_some, if_true]
    rw [h2]
    simp [mkL, hm]
  · rw [if_neg hm] at h1 h2 ⊢
    simp only [Option.isSome_none, Bool.false_eq_true, if_false]
    rw [hasBy_none rfl, h2]
    simp [mkL, hm]
theorem mk_len : ∀ (ks : List Nat), (mkL ks).length = 2 * (goneL (mkL ks)).length
  | [] => rfl
  | k :: ks => by
    have ih := mk_len ks
    unfold mkL
    by_cases hm : k ∈ ks
    · rw [if_pos hm]; exact ih
    · rw [if_neg hm]
      have e : goneL (.gone (adr k) :: .addr (adr k) :: mkL ks) = adr k :: goneL (mkL ks) := rfl
      rw [e]
      simp only [List.length_cons]
      omega
theorem mk_le : ∀ (ks : List Nat), (mkL ks).length ≤ 2 * ks.length
  | [] => Nat.le_refl _
  | k :: ks => by
    have ih := mk_le ks
    unfold mkL
    by_cases hm : k ∈ ks
    · rw [if_pos hm]; simp; omega
    · rw [if_neg hm]; simp; omega
theorem mk_cons_len (k : Nat) (ks : List Nat) : (mkL (k :: ks)).length = (mkL ks).length + if k ∈ ks then 0 else 2 := by
  conv => lhs; unfold mkL
  by_cases hm : k ∈ ks
  · rw [if_pos hm, if_pos hm]; rfl
  · rw [if_neg hm, if_neg hm]; rfl
theorem mk_drop (k : Nat) (ks : List Nat) : (mkL (k :: ks)).drop ((mkL (k :: ks)).length - (mkL ks).length) = mkL ks := by
  rw [mk_cons_len]
  conv => lhs; arg 2; unfold mkL
  by_cases hm : k ∈ ks
  · rw [if_pos hm, if_pos hm]; simp
  · rw [if_neg hm, if_neg hm]; simp
end Go.Proofs.Ytginibphicmmmaa
