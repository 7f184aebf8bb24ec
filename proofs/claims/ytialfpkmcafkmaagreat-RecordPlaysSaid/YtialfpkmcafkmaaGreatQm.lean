/- A disk that runs, with room; what a law carries from call to call. -/
import Derived.Test.YtialfpkmcafkmaaGreatQl
namespace Go.Proofs.YtialfpkmcafkmaaGreat
open Go.RowKit

theorem min_nat (q : Int) {n k : Nat} (hq : q = if (k : Int) < (n : Int) then (k : Int) else (n : Int)) : ∃ m : Nat, q = (m : Int) ∧ m ≤ n ∧ m ≤ k := by
  by_cases h : (k : Int) < (n : Int)
  · rw [if_pos h] at hq; exact ⟨k, hq, by omega, by omega⟩
  · rw [if_neg h] at hq; exact ⟨n, hq, by omega, by omega⟩
theorem long_ok {s : Nm} (h : s.length ≤ 1000) : s.length ≤ maxLen := by unfold maxLen; omega
/-- A disk that runs. -/
structure Hl (p : Pd) : Prop where
  dead : p.dead = false
  after : p.after = -1
theorem Hl.tick {p : Pd} (h : Hl p) : p.tick = p := by
  cases p
  have := h.after
  simp only at this
  simp only [Pd.tick, this]
  rfl
section
variable {p : Pd} {s xs name : Nm}
theorem Hl.append (h : Hl p) (hu : usedE p.L + xs.length ≤ p.room) : p.append s xs = (0, p.app s xs) := by
  unfold Pd.append
  rw [if_neg (by rw [h.dead]; decide), if_neg (by rw [h.after]; decide), if_pos hu, h.tick]
theorem Hl.change (h : Hl p) {e : Ent} (hg : getE p.L s = some e) (f : Ent → List Ent) : p.change s f = (0, { p with L := f e }) := by
  unfold Pd.change
  rw [if_neg (by rw [h.dead]; decide), if_neg (by rw [h.after]; decide), hg, h.tick]
theorem Hl.with (h : Hl p) (L : List Ent) : Hl { p with L := L } := ⟨h.dead, h.after⟩
/-- The disk's list has these files, and else what it had. -/
theorem Hl.add (h : Hl p) (hp : p.Ok) (hs : xs.length ≤ 65536) (hu : usedE p.L + xs.length + 8 ≤ p.room) : ∃ q, p.add name xs = (0, q) ∧ Hl q ∧ q.room = p.room ∧ usedE q.L = usedE p.L + xs.length + 8 ∧
    getE q.L name = some ⟨name, bsE (getE p.L name) ++ fr xs, (bsE (getE p.L name) ++ fr xs).length⟩ ∧ ∀ t, t ≠ name → getE q.L t = getE p.L t := by
  have hfl : usedE p.L + (fr xs).length ≤ p.room := by rw [fr_len]; omega
  have ha := h.append (s := name) hfl
  have hg : getE (p.app name (fr xs)).L name = some ⟨name, bsE (getE p.L name) ++ fr xs, synE (getE p.L name)⟩ := by
    show getE (putE _ _) _ = _
    rw [getE_put, if_pos rfl]
  have hH : Hl (p.app name (fr xs)) := h.with _
  have hb := hH.change hg fun e => putE (p.app name (fr xs)).L ⟨name, e.bs, e.bs.length⟩
  refine ⟨{ p.app name (fr xs) with L := putE (p.app name (fr xs)).L ⟨name, bsE (getE p.L name) ++ fr xs, (bsE (getE p.L name) ++ fr xs).length⟩ }, ?_, hH.with _, rfl, ?_, ?_, ?_⟩
  · unfold Pd.add
    rw [if_pos hs]
    simp only [runP, ha, if_pos]
    rw [show (p.app name (fr xs)).sync name = _ from hb]
    simp only [if_pos]
  · have h1 := used_app hp name (fr xs)
    have h2 := usedE_put (hp.app (s := name) hfl).up ⟨name, bsE (getE p.L name) ++ fr xs, (bsE (getE p.L name) ++ fr xs).length⟩
    simp only [hg, lenE] at h2
    rw [fr_len] at h1
    show usedE (putE _ _) = _
    omega
  · show getE (putE _ _) _ = _
    rw [getE_put, if_pos rfl]
  · intro t ht
    show getE (putE _ _) _ = _
    rw [getE_put, if_neg ht]
    show getE (putE _ _) _ = _
    rw [getE_put, if_neg ht]
theorem runP_cons {f : Pd → Int × Pd} {r : List (Pd → Int × Pd)} {q : Pd} (h : f p = (0, q)) : runP p (f :: r) = runP q r := by
  simp only [runP, h, if_pos]
theorem dropE_none {L : List Ent} (h : getE L s = none) : dropE L s = L := by
  induction L with
  | nil => rfl
  | cons x r ih =>
    simp only [getE] at h
    split at h
    · cases h
    · rename_i hx
      simp only [dropE]
      rw [if_neg hx, ih h]
theorem Hl.discard (h : Hl p) : p.discard s = (0, { p with L := dropE p.L s }) := by
  unfold Pd.discard
  cases hg : getE p.L s with
  | none => simp only [dropE_none hg]
  | some e => exact h.change hg fun _ => dropE p.L s
theorem fresh_ne (s : Nm) : fresh s ≠ s := fun h => by
  have := congrArg List.length h
  simp [fresh] at this
theorem Up.used_drop {L : List Ent} (s : Nm) : usedE (dropE L s) ≤ usedE L := by
  cases hg : getE L s with
  | none => rw [dropE_none hg]; exact Nat.le_refl _
  | some e => have := usedE_drop hg; omega
theorem Hl.exchange (h : Hl p) (hp : p.Ok) (hu : usedE p.L + s.length ≤ p.room) : ∃ q, p.exchange name s = (0, q) ∧ Hl q ∧ q.room = p.room ∧ usedE q.L ≤ usedE p.L + s.length ∧
    getE q.L name = some ⟨name, s, s.length⟩ ∧ getE q.L (fresh name) = none ∧ ∀ t, t ≠ name → t ≠ fresh name → getE q.L t = getE p.L t := by
  have hne := fresh_ne name
  have hL1 := hp.up.drop (fresh name)
  have hn1 : getE (dropE p.L (fresh name)) (fresh name) = none := by rw [getE_drop hp.up, if_pos rfl]
  have hu1 := Up.used_drop (L := p.L) (fresh name)
  have hu2 := usedE_put hL1 ⟨fresh name, s, 0⟩
  simp only [hn1, lenE] at hu2
  have hg2 : getE (putE (dropE p.L (fresh name)) ⟨fresh name, s, 0⟩) (fresh name) = some ⟨fresh name, s, 0⟩ := by rw [getE_put, if_pos rfl]
  have hL2 := hL1.put ⟨fresh name, s, 0⟩
  have hu3 := usedE_put hL2 ⟨fresh name, s, s.length⟩
  simp only [hg2, lenE] at hu3
  have hg3 : getE (putE (putE (dropE p.L (fresh name)) ⟨fresh name, s, 0⟩) ⟨fresh name, s, s.length⟩) (fresh name) = some ⟨fresh name, s, s.length⟩ := by rw [getE_put, if_pos rfl]
  have hL3 := hL2.put ⟨fresh name, s, s.length⟩
  have hu4 := usedE_put (hL3.drop (fresh name)) ⟨name, s, s.length⟩
  have hu5 := usedE_drop hg3
  simp only at hu4 hu5
  refine ⟨{ p with L := putE (dropE (putE (putE (dropE p.L (fresh name)) ⟨fresh name, s, 0⟩) ⟨fresh name, s, s.length⟩) (fresh name)) ⟨name, s, s.length⟩ }, ?_, h.with _, rfl, ?_, ?_, ?_, ?_⟩
  · unfold Pd.exchange
    rw [runP_cons h.discard]
    have e2 : ({ p with L := dropE p.L (fresh name) } : Pd).append (fresh name) s = (0, { p with L := putE (dropE p.L (fresh name)) ⟨fresh name, s, 0⟩ }) := by
      rw [(h.with _).append (by show usedE (dropE _ _) + s.length ≤ p.room; omega)]
      unfold Pd.app
      simp only [hn1, bsE, synE, List.nil_append]
    rw [runP_cons e2]
    rw [runP_cons ((h.with (putE (dropE p.L (fresh name)) ⟨fresh name, s, 0⟩)).change hg2 fun e => putE _ ⟨fresh name, e.bs, e.bs.length⟩)]
    rw [runP_cons ((h.with (putE (putE (dropE p.L (fresh name)) ⟨fresh name, s, 0⟩) ⟨fresh name, s, s.length⟩)).change hg3 fun e => putE (dropE _ (fresh name)) ⟨name, e.bs, e.syn⟩)]
    rfl
  · show usedE (putE _ _) ≤ _
    omega
  · show getE (putE _ _) _ = _
    rw [getE_put, if_pos rfl]
  · show getE (putE _ _) _ = _
    rw [getE_put, if_neg hne, getE_drop hL3, if_pos rfl]
  · intro t h1 h2
    show getE (putE _ _) _ = _
    rw [getE_put, if_neg h1, getE_drop hL3, if_neg h2, getE_put, if_neg h2, getE_put, if_neg h2, getE_drop hp.up, if_neg h2]
/-- A file that is mended has its frames, and no more. -/
theorem Hl.mend (h : Hl p) (hp : p.Ok) {l : List Nm} {r : Nm} (hF : Fs (bsE (getE p.L name)) l r) (hu : usedE p.L + (frs l).length ≤ p.room) : ∃ q, p.mendW name (frs l) = (0, q) ∧ Hl q ∧ q.room = p.room ∧ usedE q.L ≤ usedE p.L + (frs l).length ∧
    bsE (getE q.L name) = frs l ∧ ∀ t, t ≠ name → t ≠ fresh name → getE q.L t = getE p.L t := by
  have hlen := hF.len
  unfold Pd.mendW
  by_cases h0 : (frs l).length = (bsE (getE p.L name)).length
  · rw [if_pos h0]
    have hr : r = [] := List.eq_nil_of_length_eq_zero (by omega)
    exact ⟨p, rfl, h, rfl, by omega, by rw [hF.eq, hr, List.append_nil], fun _ _ _ => rfl⟩
  · rw [if_neg h0]
    by_cases h1 : (frs l).length = 0
    · rw [if_pos h1]
      cases hg : getE p.L name with
      | none => rw [hg] at h0; exact absurd (by rw [h1]; rfl) h0
      | some e =>
        have hgd : getE (dropE p.L (fresh name)) name = some e := by rw [getE_drop hp.up, if_neg (Ne.symm (fresh_ne name))]; exact hg
        refine ⟨{ p with L := dropE (dropE p.L (fresh name)) name }, ?_, h.with _, rfl, ?_, ?_, ?_⟩
        · rw [runP_cons h.discard, runP_cons ((h.with (dropE p.L (fresh name))).change hgd fun _ => dropE _ name)]
          rfl
        · have := Up.used_drop (L := p.L) (fresh name)
          have := Up.used_drop (L := dropE p.L (fresh name)) name
          show usedE (dropE _ _) ≤ _
          omega
        · show bsE (getE (dropE _ _) _) = _
          rw [getE_drop (hp.up.drop _), if_pos rfl]
          exact (List.eq_nil_of_length_eq_zero h1).symm
        · intro t k1 k2
          show getE (dropE _ _) _ = _
          rw [getE_drop (hp.up.drop _), if_neg k1, getE_drop hp.up, if_neg k2]
    · rw [if_neg h1]
      obtain ⟨q, k1, k2, k3, k4, k5, k6, k7⟩ := h.exchange (name := name) hp hu
      exact ⟨q, k1, k2, k3, k4, by rw [k5]; rfl, k7⟩
end
theorem Hl.new (room : Nat) : Hl (Pd.new room) := ⟨rfl, rfl⟩
section
variable {p q : Pd} {d N M : Nat} {F G : Nat → Prop} {W0 W W' : World}
theorem Left.ok (h : Left p d N F W W') : p.Ok := by obtain ⟨_, h, _⟩ := h; exact h.ok
/-- A call, in the course of a law. -/
theorem Left.on (h : Left p d N G W0 W) {f : FuncId} {args : Array Value} {r : Ending} (hc : ∀ F, On p d N F W → Calls Tryz.prog f args W fun e W' => e = r ∧ Left q d M F W W') :
    Calls Tryz.prog f args W fun e W' => e = r ∧ Left q d M G W0 W' := by
  obtain ⟨F, h1, h2⟩ := h
  refine (hc F h1).mono ?_
  rintro e W' ⟨rfl, F', k1, k2⟩
  exact ⟨rfl, F', k1, h2.trans k2⟩
/-- .. that only makes new memory. -/
theorem Left.fresh (h : Left p d N G W0 W) (hb : Below W.heap.size W W') : Left p d N G W0 W' := by
  obtain ⟨F, h1, h2⟩ := h
  exact ⟨F, h1.below hb, h2.trans (Chg.of_below hb)⟩
theorem Left.from (h : Left p d N G W W') (hb : Below W0.heap.size W0 W) : Left p d N G W0 W' := by
  obtain ⟨F, h1, h2⟩ := h
  exact ⟨F, h1, (Chg.of_below hb).trans h2⟩
theorem Left.below (h : Left p d N (fun _ => False) W0 W) : Below W0.heap.size W0 W := by
  obtain ⟨F, h1, h2⟩ := h
  exact h2.below
theorem Left.any (h : Left p d N G W0 W) (M : Nat) (hM : N ≤ M) : Left p d M G W0 W := h.mono hM
theorem Left.allS (h : Left p d N G W0 W) {name : Nm} (hs : name.length ≤ maxLen) {l : List Nm} {r : Nm} (hF : Fs (bsE (getE p.L name)) l r) :
    Calls Tryz.prog 13 #[.pointer (some ⟨d, 0, none⟩), .string (str name)] W fun e W' => ∃ v, e = .returned v ∧ OwnS W.heap.size l v W' ∧ Below W.heap.size W W' := by
  obtain ⟨F, h1, h2⟩ := h
  exact h1.all hs hF
theorem Left.whole (h : Left p d N G W0 W) {name : Nm} (hs : name.length ≤ maxLen) :
    Calls Tryz.prog 9 #[.pointer (some ⟨d, 0, none⟩), .string (str name)] W fun e W' => e = .returned (firstV (wholeP (bsE (getE p.L name)))) ∧ Below W.heap.size W W' := by
  obtain ⟨F, h1, h2⟩ := h
  exact h1.whole hs
theorem Left.read (h : Left p d N G W0 W) {name : Nm} (hs : name.length ≤ maxLen) :
    Calls Tryz.prog 31 #[.pointer (some ⟨d, 0, none⟩), .string (str name)] W fun e W' => e = .returned (readV (getE p.L name)) ∧ W' = W := by
  obtain ⟨F, h1, h2⟩ := h
  exact h1.read hs
end
/-- A frame that is cut is none. -/
theorem firstP_cut {t : Nm} (ht : t.length ≤ 65536) {k : Nat} (hk : k < (fr t).length) : firstP ((fr t).take k) = none := by
  cases h : firstP ((fr t).take k) with
  | none => rfl
  | some u =>
    obtain ⟨h1, r, hr⟩ := firstP_some.1 h
    have hl := congrArg List.length hr
    rw [List.length_append, List.length_take, Nat.min_eq_left (Nat.le_of_lt hk), fr_len] at hl
    have he : fr t = fr u ++ (r ++ (fr t).drop k) := by rw [← List.append_assoc, ← hr, List.take_append_drop]
    have e1 := firstP_fr ht []
    have e2 := firstP_fr h1 (r ++ (fr t).drop k)
    rw [List.append_nil, he, e2] at e1
    injection e1 with e1
    subst e1
    rw [fr_len] at hk
    omega
end Go.Proofs.YtialfpkmcafkmaaGreat
