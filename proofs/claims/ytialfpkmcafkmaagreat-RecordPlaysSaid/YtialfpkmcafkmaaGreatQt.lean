/- Lost, as plain data has it. -/
import Derived.Test.YtialfpkmcafkmaaGreatQo
namespace Go.Proofs.YtialfpkmcafkmaaGreat
open Go.RowKit Go.Maps

/-- How many bytes are found of the files that are no longer to come. -/
def sumE (keep : Int) (left : Lit → Bool) : List Ent → Nat
  | [] => 0
  | x :: r => (if left (.string x.name) = true then 0 else keptE keep x) + sumE keep left r
theorem keptE_le {keep : Int} {e : Ent} (h : e.syn ≤ e.bs.length) : keptE keep e ≤ e.bs.length := by unfold keptE tornN; omega
theorem lostE_len {keep : Int} {e : Ent} (h : e.syn ≤ e.bs.length) : (lostE keep e).bs.length = keptE keep e := by
  show (e.bs.take _).length = _
  rw [List.length_take]
  exact Nat.min_eq_left (keptE_le h)
theorem getE_lost (keep : Int) (L : List Ent) (s : Nm) : getE (L.map (lostE keep)) s = (getE L s).map (lostE keep) := by
  induction L with
  | nil => rfl
  | cons x r ih =>
    simp only [List.map_cons, getE]
    by_cases h : x.name = s
    · rw [if_pos h, if_pos (show (lostE keep x).name = s from h)]; rfl
    · rw [if_neg h, if_neg (show ¬ (lostE keep x).name = s from h)]; exact ih
theorem Up.lost {L : List Ent} (h : Up L) (keep : Int) : Up (L.map (lostE keep)) := by
  induction L with
  | nil => exact trivial
  | cons x r ih =>
    refine ⟨fun y hy => ?_, ih h.2⟩
    obtain ⟨z, hz, rfl⟩ := List.mem_map.1 hy
    exact h.1 z hz
theorem getE_of_mem {L : List Ent} (h : Up L) {e : Ent} (he : e ∈ L) : getE L e.name = some e := by
  induction L with
  | nil => cases he
  | cons x r ih =>
    simp only [getE]
    rcases List.mem_cons.1 he with rfl | he
    · rw [if_pos rfl]
    · have := h.1 e he
      rw [if_neg (fun k => by rw [k] at this; exact nlt _ this)]
      exact ih h.2 he
theorem sum_all {keep : Int} {left : Lit → Bool} {L : List Ent} (h : ∀ e ∈ L, left (.string e.name) = true) : sumE keep left L = 0 := by
  induction L with
  | nil => rfl
  | cons x r ih => simp only [sumE]; rw [if_pos (h x (by simp)), ih (fun e he => h e (by simp [he]))]
theorem sum_none (keep : Int) {L : List Ent} (h : ∀ e ∈ L, e.syn ≤ e.bs.length) : sumE keep (fun _ => false) L = usedE (L.map (lostE keep)) := by
  induction L with
  | nil => rfl
  | cons x r ih =>
    simp only [sumE, List.map_cons, usedE]
    rw [ih (fun e he => h e (by simp [he])), lostE_len (h x (by simp))]
    simp
theorem same_ne {a b : Nm} (h : a ≠ b) : Lit.sameKey (.string a) (.string b) = false := Maps.sameKey_ne (by simpa using h)
theorem same_eq (a : Nm) : Lit.sameKey (.string a) (.string a) = true := WideAt.sameKey_self (a := .string a) trivial
theorem sum_other {keep : Int} {left : Lit → Bool} {L : List Ent} {s : Nm} (h : ∀ e ∈ L, e.name ≠ s) : sumE keep (fun z => left z && !z.sameKey (.string s)) L = sumE keep left L := by
  induction L with
  | nil => rfl
  | cons x r ih =>
    simp only [sumE]
    rw [ih (fun e he => h e (by simp [he]))]
    simp only [same_ne (h x (by simp)), Bool.not_false, Bool.and_true]
theorem sum_step {keep : Int} {left : Lit → Bool} {L : List Ent} (hU : Up L) {s : Nm} {e : Ent} (hg : getE L s = some e) (hl : left (.string s) = true) : sumE keep (fun z => left z && !z.sameKey (.string s)) L = sumE keep left L + keptE keep e := by
  induction L with
  | nil => cases hg
  | cons x r ih =>
    simp only [getE] at hg
    simp only [sumE]
    by_cases hx : x.name = s
    · rw [if_pos hx] at hg
      cases hg
      rw [sum_other (s := s) (fun e he k => by have := hU.1 e he; rw [hx, k] at this; exact nlt _ this)]
      simp only [hx, same_eq, hl, Bool.not_true, Bool.and_false, if_true]
      simp
      omega
    · rw [if_neg hx] at hg
      rw [ih hU.2 hg]
      simp only [same_ne hx, Bool.not_false, Bool.and_true]
      omega
theorem used_lost {keep : Int} {L : List Ent} (h : ∀ e ∈ L, e.syn ≤ e.bs.length) : usedE (L.map (lostE keep)) ≤ usedE L := by
  induction L with
  | nil => exact Nat.le_refl _
  | cons x r ih =>
    simp only [List.map_cons, usedE]
    have h1 := ih (fun e he => h e (by simp [he]))
    have h2 := keptE_le (keep := keep) (h x (by simp))
    rw [lostE_len (h x (by simp))]
    omega
theorem Pd.Ok.lost {p : Pd} (h : p.Ok) (keep : Int) : (p.lost keep).Ok := by
  refine ⟨h.up.lost keep, Nat.le_trans (used_lost h.syn) h.used, h.room, ⟨by show _ ≤ (-1 : Int); omega, by show (-1 : Int) ≤ _; omega⟩, fun e he => ?_⟩
  obtain ⟨z, hz, rfl⟩ := List.mem_map.1 he
  rw [lostE_len (h.syn z hz)]
  exact Nat.le_refl _
section
variable {p : Pd} {d N : Nat} {F : Nat → Prop} {W : World}
theorem On.lost (h : On p d N F W) (hN : N < 999000) (hB : p.room * N ≤ 100000000) (keep : Int) :
    Calls Tryz.prog 26 #[.pointer (some ⟨d, 0, none⟩), .int .i64 keep] W fun e W' => ∃ zd, e = .returned (.pointer (some ⟨zd, 0, none⟩)) ∧ Left (p.lost keep) zd N (fun _ => False) W W' := by
  obtain ⟨hp, x, rfl, rfl, h1, h2, h3⟩ := h
  have hF := h3.fine hp (by omega)
  obtain ⟨D, ho, hat, hhas⟩ := h1.own
  have hfile : ∀ s f, x.fs s = some f → f.bs.length ≤ p.room ∧ f.syn ≤ f.bs.length := fun s f hs => by
    obtain ⟨e, k1, k2, k3⟩ := h3.there hs
    have := usedE_le k1
    have := hp.used
    exact ⟨by rw [k2]; omega, by rw [k2, k3]; exact hp.syn e (getE_mem k1).1⟩
  refine (lost_c (B := p.room) ⟨h1, hF, ho, hat, hhas, hfile, Nat.le_trans (Nat.mul_le_mul_left _ h2) hB⟩ keep).mono ?_
  rintro e W2 ⟨zd, rfl, y, q1, q2, q3, q4, q5, q6, q7, q8, q9, q10, q11, q12⟩
  have hkept : ∀ (f : Fl) (e : Ent), f.bs = e.bs → f.syn = e.syn → keptN keep f = keptE keep e := fun f e k1 k2 => by unfold keptN keptE; rw [k1, k2]
  have hsum : SumOf x keep (fun left => (sumE keep left p.L : Int)) := by
    refine ⟨fun left hl => ?_, fun left s f hs hl => ?_⟩
    · have : sumE keep left p.L = 0 := sum_all fun e he => by
        cases hf : x.fs e.name with
        | none => have := h3.gone hf; rw [getE_of_mem hp.up he] at this; cases this
        | some f => exact hl _ f hf
      show (sumE keep left p.L : Int) = 0
      rw [this]; rfl
    · obtain ⟨e, k1, k2, k3⟩ := h3.there hs
      show (sumE keep _ p.L : Int) = (sumE keep left p.L : Int) + (keptN keep f : Nat)
      rw [sum_step hp.up k1 hl, hkept f e k2 k3]; simp
  refine ⟨zd, rfl, _, ⟨hp.lost keep, y, q1, rfl, q2, by omega, ⟨q5.trans h3.room, ?_, q7, q12, q6, fun s => ?_⟩⟩, q3⟩
  · rw [q11 _ hsum]
    show (sumE keep (fun _ => false) p.L : Int) = (usedE (p.L.map (lostE keep)) : Int)
    rw [sum_none keep hp.syn]
  · show _ = (getE (p.L.map (lostE keep)) s).map _
    rw [getE_lost]
    cases hf : x.fs s with
    | none => rw [(q8 s).1 (Or.inl hf), h3.gone hf]; rfl
    | some f =>
      obtain ⟨e, k1, k2, k3⟩ := h3.there hf
      obtain ⟨g, r1, r2, r3⟩ := (q8 s).2 f hf rfl
      rw [r1, k1]
      have hl : g.bs = (lostE keep e).bs := by rw [r2, hkept f e k2 k3, k2]; rfl
      have hl2 : g.syn = (lostE keep e).syn := by rw [r3, hl, lostE_len (hp.syn e (getE_mem k1).1)]; rfl
      simp only [Option.map_some, hl, hl2]
end
end Go.Proofs.YtialfpkmcafkmaaGreat
