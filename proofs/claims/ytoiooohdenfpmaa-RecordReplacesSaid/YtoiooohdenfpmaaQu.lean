/- Replace, and Add, on a disk that crashes in one of its steps. -/
import Derived.Test.YtoiooohdenfpmaaQt
namespace Go.Proofs.Ytoiooohdenfpmaa
open Go.RowKit

/-- A disk, with so much on it. -/
structure Rm (p : Pd) (n : Nat) : Prop where
  ok : p.Ok
  used : usedE p.L ≤ n
  room : p.room = 10000
section
variable {p : Pd} {n : Nat} {s xs t : Nm}
theorem Rm.tick (h : Rm p n) : Rm p.tick n := ⟨h.ok.tick, h.used, h.room⟩
theorem Rm.die (h : Rm p n) : Rm p.die n := ⟨h.ok.die, h.used, h.room⟩
theorem Rm.up (h : Rm p n) {m : Nat} (hm : n ≤ m) : Rm p m := ⟨h.ok, Nat.le_trans h.used hm, h.room⟩
theorem Rm.app (h : Rm p n) (hn : n + xs.length ≤ 10000) : Rm (p.app s xs) (n + xs.length) := by
  have hu := h.used
  refine ⟨h.ok.app (by rw [h.room]; omega), ?_, h.room⟩
  rw [used_app h.ok]; omega
theorem Rm.put (h : Rm p n) {e : Ent} (hg : getE p.L s = some e) : Rm { p.tick with L := putE p.L ⟨s, e.bs, e.bs.length⟩ } n := by
  have hk := h.ok.putS hg e.bs.length (Nat.le_refl _)
  exact ⟨hk.2, by show usedE (putE _ _) ≤ n; rw [hk.1]; exact h.used, h.room⟩
theorem Rm.mv (h : Rm p n) {e : Ent} (hg : getE p.L s = some e) (t : Nm) : Rm { p.tick with L := putE (dropE p.L s) ⟨t, e.bs, e.syn⟩ } n := by
  have hu := mv_used h.ok hg t
  exact ⟨h.ok.mv hg t, by have := h.used; show usedE (putE _ _) ≤ n; omega, h.room⟩
theorem append_dead' (hd : p.dead = true) : p.append s xs = (19, p) := by unfold Pd.append; rw [if_pos hd]
theorem append_go (hd : p.dead = false) (ha : p.after ≠ 0) (hu : usedE p.L + xs.length ≤ p.room) : p.append s xs = (0, p.tick.app s xs) := by
  unfold Pd.append
  rw [if_neg (by rw [hd]; decide), if_neg ha, if_pos hu]
theorem append_stop (hd : p.dead = false) (ha : p.after = 0) (hu : usedE p.L + xs.length ≤ p.room) : ∃ k, k ≤ xs.length ∧ p.append s xs = (19, if k = 0 then p.die else p.die.app s (xs.take k)) := by
  refine ⟨tornN p.torn xs.length, Nat.min_le_right _ _, ?_⟩
  unfold Pd.append
  rw [if_neg (by rw [hd]; decide), if_pos ha]
  by_cases hz : tornN p.torn xs.length = 0
  · rw [if_neg (fun h => h.2 hz), if_pos hz]
  · rw [if_pos ⟨hu, hz⟩, if_neg hz]
theorem change_dead' (hd : p.dead = true) (f : Ent → List Ent) : p.change s f = (19, p) := by unfold Pd.change; rw [if_pos hd]
theorem change_stop (hd : p.dead = false) (ha : p.after = 0) (f : Ent → List Ent) : p.change s f = (19, p.die) := by
  unfold Pd.change
  rw [if_neg (by rw [hd]; decide), if_pos ha]
theorem change_go (hd : p.dead = false) (ha : p.after ≠ 0) {e : Ent} (hg : getE p.L s = some e) (f : Ent → List Ent) : p.change s f = (0, { p.tick with L := f e }) := by
  unfold Pd.change
  rw [if_neg (by rw [hd]; decide), if_neg ha, hg]
theorem runP_err {f : Pd → Int × Pd} {r : List (Pd → Int × Pd)} {q : Pd} {e : Int} (h : f p = (e, q)) (he : e ≠ 0) : runP p (f :: r) = (e, q) := by
  simp only [runP, h]
  rw [if_neg he]
theorem tick_after {k : Nat} (h : p.after = (k : Int) + 1) : p.tick.after = (k : Int) := by
  show (if 0 < p.after then p.after - 1 else p.after) = _
  rw [h, if_pos (by omega)]; omega
/-- Replace: it is done, or the disk crashes, and the file is as it was. -/
theorem repl_pure (h : Rm p n) (hn : n ≤ 9000) (hd : p.dead = false) {a : Nat} (ha : p.after = (a : Int)) {name : Nm} (hG : getE p.L (fresh name) = none) (ht : t.length ≤ 100) :
    ∃ r q, p.replace name t = (r, q) ∧ Rm q (n + 108) ∧ (∀ x, x ≠ name → x ≠ fresh name → getE q.L x = getE p.L x) ∧
      ((r ≠ 0 ∧ q.dead = true ∧ getE q.L name = getE p.L name) ∨ (r = 0 ∧ q.dead = false ∧ ∃ b : Nat, q.after = (b : Int) ∧ getE q.L name = some ⟨name, fr t, (fr t).length⟩)) := by
  have hne := fresh_ne name
  have hfl := fr_len t
  have hu := h.used
  have hfit : usedE p.L + (fr t).length ≤ p.room := by rw [h.room]; omega
  have hdis : p.discard (fresh name) = (0, p) := by unfold Pd.discard; rw [hG]
  unfold Pd.replace
  rw [if_pos (by omega)]
  unfold Pd.exchange
  rw [runP_cons hdis]
  have happ : ∀ (q : Pd) (ys : Nm) (x : Nm), q.L = p.L → x ≠ fresh name → getE (q.app (fresh name) ys).L x = getE p.L x := fun q ys x hq hx => by
    show getE (putE _ _) _ = _
    rw [getE_put, if_neg hx, hq]
  match a, ha with
  | 0, ha =>
    obtain ⟨k, hk, hs⟩ := append_stop (s := fresh name) hd ha hfit
    rw [runP_err hs (by omega)]
    refine ⟨_, _, rfl, ?_, ?_, Or.inl ⟨by omega, ?_, ?_⟩⟩
    · split
      · exact h.die.up (by omega)
      · have hl : ((fr t).take k).length ≤ 108 := by rw [List.length_take]; omega
        exact (h.die.app (s := fresh name) (xs := (fr t).take k) (by omega)).up (by omega)
    · intro x hx1 hx2
      split
      · rfl
      · exact happ _ _ _ rfl hx2
    · split <;> rfl
    · split
      · rfl
      · exact happ _ _ _ rfl (Ne.symm hne)
  | a + 1, ha =>
    have ha' : p.after ≠ 0 := by rw [ha]; omega
    rw [runP_cons (append_go (s := fresh name) hd ha' hfit)]
    have h1 : Rm (p.tick.app (fresh name) (fr t)) (n + (fr t).length) := h.tick.app (by omega)
    have g1 : getE (p.tick.app (fresh name) (fr t)).L (fresh name) = some ⟨fresh name, fr t, 0⟩ := by
      show getE (putE _ _) _ = _
      rw [getE_put, if_pos rfl]
      show some (⟨fresh name, bsE (getE p.L (fresh name)) ++ fr t, synE (getE p.L (fresh name))⟩ : Ent) = _
      rw [hG]; rfl
    have o1 : ∀ x, x ≠ fresh name → getE (p.tick.app (fresh name) (fr t)).L x = getE p.L x := fun x hx => happ _ _ _ rfl hx
    have d1 : (p.tick.app (fresh name) (fr t)).dead = false := hd
    have a1 : (p.tick.app (fresh name) (fr t)).after = (a : Int) := tick_after ha
    generalize p.tick.app (fresh name) (fr t) = p1 at *
    match a, a1 with
    | 0, a1 =>
      rw [runP_err (show p1.sync (fresh name) = (19, p1.die) from change_stop d1 a1 _) (by omega)]
      exact ⟨_, _, rfl, h1.die.up (by omega), fun x _ hx2 => o1 x hx2, Or.inl ⟨by omega, rfl, o1 _ (Ne.symm hne)⟩⟩
    | b + 1, a1 =>
      rw [runP_cons (show p1.sync (fresh name) = _ from change_go d1 (by rw [a1]; omega) g1 _)]
      have h2 := h1.put g1
      have g2 : getE (putE p1.L ⟨fresh name, fr t, (fr t).length⟩) (fresh name) = some ⟨fresh name, fr t, (fr t).length⟩ := by rw [getE_put, if_pos rfl]
      have o2 : ∀ x, x ≠ fresh name → getE (putE p1.L ⟨fresh name, fr t, (fr t).length⟩) x = getE p.L x := fun x hx => by rw [getE_put, if_neg hx]; exact o1 x hx
      have a2 : p1.tick.after = (b : Int) := tick_after a1
      have d2 : p1.tick.dead = false := d1
      obtain ⟨p2, hp2⟩ : ∃ p2 : Pd, p2 = { p1.tick with L := putE p1.L ⟨fresh name, fr t, (fr t).length⟩ } := ⟨_, rfl⟩
      have e2 : p2.L = putE p1.L ⟨fresh name, fr t, (fr t).length⟩ := by rw [hp2]
      have e3 : p2.after = (b : Int) := by rw [hp2]; exact a2
      have e4 : p2.dead = false := by rw [hp2]; exact d2
      have e5 : Rm p2 (n + (fr t).length) := by rw [hp2]; exact h2
      show ∃ r q, runP { p1.tick with L := putE p1.L ⟨fresh name, fr t, (fr t).length⟩ } _ = (r, q) ∧ _
      rw [← hp2]
      rw [← e2] at g2 o2
      clear hp2 e2 h2 a2 d2
      match b, e3 with
      | 0, e3 =>
        rw [runP_err (show p2.rename (fresh name) name = (19, p2.die) from change_stop e4 e3 _) (by omega)]
        exact ⟨_, _, rfl, e5.die.up (by omega), fun x _ hx2 => o2 x hx2, Or.inl ⟨by omega, rfl, o2 _ (Ne.symm hne)⟩⟩
      | c + 1, e3 =>
        rw [runP_cons (show p2.rename (fresh name) name = _ from change_go e4 (by rw [e3]; omega) g2 _)]
        have h3 := e5.mv g2 name
        refine ⟨_, _, rfl, h3.up (by omega), fun x hx1 hx2 => ?_, Or.inr ⟨rfl, e4, c, tick_after e3, ?_⟩⟩
        · show getE (putE _ _) _ = _
          rw [getE_put, if_neg hx1, getE_drop e5.ok.up, if_neg hx2]; exact o2 x hx2
        · show getE (putE _ _) _ = _
          rw [getE_put, if_pos rfl]
/-- Add: it is done, or the disk crashes, or has crashed: what was there stays, and of the frame there is a beginning. -/
theorem add_pure (h : Rm p n) (hn : n ≤ 9000) (hd : p.dead = true ∨ (p.dead = false ∧ ∃ a : Nat, p.after = (a : Int))) {name b : Nm} (hg : getE p.L name = some ⟨name, b, b.length⟩) (ht : t.length ≤ 100) :
    ∃ r q, p.add name t = (r, q) ∧ Rm q (n + 108) ∧ (∀ x, x ≠ name → getE q.L x = getE p.L x) ∧
      ∃ k syn, getE q.L name = some ⟨name, b ++ (fr t).take k, syn⟩ ∧ b.length ≤ syn ∧ (r = 0 → k = (fr t).length ∧ syn = b.length + (fr t).length) := by
  have hfl := fr_len t
  have hu := h.used
  have hfit : usedE p.L + (fr t).length ≤ p.room := by rw [h.room]; omega
  unfold Pd.add
  rw [if_pos (by omega)]
  rcases hd with hd | ⟨hd, a, ha⟩
  · rw [runP_err (append_dead' hd) (by omega)]
    exact ⟨_, _, rfl, h.up (by omega), fun _ _ => rfl, 0, b.length, by rw [hg, List.take_zero, List.append_nil], Nat.le_refl _, fun h => by omega⟩
  · have happ : ∀ (q : Pd) (ys : Nm), q.L = p.L → getE (q.app name ys).L name = some ⟨name, b ++ ys, b.length⟩ ∧ ∀ x, x ≠ name → getE (q.app name ys).L x = getE p.L x := fun q ys hq => by
      refine ⟨?_, fun x hx => ?_⟩
      · show getE (putE _ _) _ = _
        rw [getE_put, if_pos rfl, hq, hg]; rfl
      · show getE (putE _ _) _ = _
        rw [getE_put, if_neg hx, hq]
    match a, ha with
    | 0, ha =>
      obtain ⟨k, hk, hs⟩ := append_stop (s := name) hd ha hfit
      rw [runP_err hs (by omega)]
      by_cases hk0 : k = 0
      · rw [if_pos hk0]
        exact ⟨_, _, rfl, h.die.up (by omega), fun _ _ => rfl, 0, b.length, by show getE p.L name = _; rw [hg, List.take_zero, List.append_nil], Nat.le_refl _, fun h => by omega⟩
      · rw [if_neg hk0]
        have hl : ((fr t).take k).length ≤ 108 := by rw [List.length_take]; omega
        exact ⟨_, _, rfl, (h.die.app (s := name) (xs := (fr t).take k) (by omega)).up (by omega), (happ p.die _ rfl).2, k, b.length, (happ p.die _ rfl).1, Nat.le_refl _, fun h => by omega⟩
    | a + 1, ha =>
      have ha' : p.after ≠ 0 := by rw [ha]; omega
      rw [runP_cons (append_go (s := name) hd ha' hfit)]
      have h1 : Rm (p.tick.app name (fr t)) (n + (fr t).length) := h.tick.app (by omega)
      obtain ⟨g1, o1⟩ := happ p.tick (fr t) rfl
      have d1 : (p.tick.app name (fr t)).dead = false := hd
      have a1 : (p.tick.app name (fr t)).after = (a : Int) := tick_after ha
      generalize p.tick.app name (fr t) = p1 at *
      match a, a1 with
      | 0, a1 =>
        rw [runP_err (show p1.sync name = (19, p1.die) from change_stop d1 a1 _) (by omega)]
        exact ⟨_, _, rfl, h1.die.up (by omega), o1, (fr t).length, b.length, by rw [List.take_length]; exact g1, Nat.le_refl _, fun h => by omega⟩
      | c + 1, a1 =>
        rw [runP_cons (show p1.sync name = _ from change_go d1 (by rw [a1]; omega) g1 _)]
        refine ⟨_, _, rfl, (h1.put g1).up (by omega), fun x hx => ?_, (fr t).length, b.length + (fr t).length, ?_, by omega, fun _ => ⟨rfl, rfl⟩⟩
        · show getE (putE _ _) _ = _
          rw [getE_put, if_neg hx]; exact o1 x hx
        · show getE (putE _ _) _ = _
          rw [getE_put, if_pos rfl, List.take_length]
          simp
end
end Go.Proofs.Ytoiooohdenfpmaa
