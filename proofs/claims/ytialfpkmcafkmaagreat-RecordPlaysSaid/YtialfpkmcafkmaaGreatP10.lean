/- The reference's Append. -/
import Derived.Test.YtialfpkmcafkmaaGreatP9
namespace Go.Proofs.YtialfpkmcafkmaaGreat
open Go.RowKit
section
variable {p : Pd} {b B : Nat} {v : Value} {W : World}
theorem papp_dead {s xs : Nm} (hd : p.dead = true) : p.append s xs = (19, p) := by unfold Pd.append; rw [if_pos hd]
theorem papp_full1 {s xs : Nm} (hd : p.dead = false) (ha : p.after = 0) (hu : ¬ usedE p.L + xs.length ≤ p.room) : p.append s xs = (19, p.die) := by unfold Pd.append; rw [if_neg (by simp [hd]), if_pos ha, if_neg (fun h => hu h.1)]
theorem papp_full0 {s xs : Nm} (hd : p.dead = false) (ha : p.after ≠ 0) (hu : ¬ usedE p.L + xs.length ≤ p.room) : p.append s xs = (5, p.tick) := by unfold Pd.append; rw [if_neg (by simp [hd]), if_neg ha, if_neg hu]
theorem papp_torn {s xs : Nm} (hd : p.dead = false) (ha : p.after = 0) (hu : usedE p.L + xs.length ≤ p.room) (ht : tornN p.torn xs.length ≠ 0) : p.append s xs = (19, p.die.app s (xs.take (tornN p.torn xs.length))) := by unfold Pd.append; rw [if_neg (by simp [hd]), if_pos ha, if_pos ⟨hu, ht⟩]
theorem papp_none {s xs : Nm} (hd : p.dead = false) (ha : p.after = 0) (ht : tornN p.torn xs.length = 0) : p.append s xs = (19, p.die) := by unfold Pd.append; rw [if_neg (by simp [hd]), if_pos ha, if_neg (fun h => h.2 ht)]
theorem papp_all {s xs : Nm} (hd : p.dead = false) (ha : p.after ≠ 0) (hu : usedE p.L + xs.length ≤ p.room) : p.append s xs = (0, p.tick.app s xs) := by unfold Pd.append; rw [if_neg (by simp [hd]), if_neg ha, if_pos hu]
theorem pcalm {P : Program} {f : FuncId} {args : Array Value} {W : World} {n : Nat} {v : Value} (h : Calls P f args (W.drewN n) fun e w' => e = .returned v ∧ w' = W.drewN n) :
    Calls P f args (W.drewN n) fun e w' => e = .returned v ∧ ∃ m, w' = W.drewN m := h.mono fun _ _ k => ⟨k.1, n, k.2⟩
theorem Pd.Ok.tick' (h : p.Ok) : p.tick.Ok := ⟨h.up, h.used, h.room, by
  have := h.after
  show _ ≤ (if 0 < p.after then p.after - 1 else p.after) ∧ (if 0 < p.after then p.after - 1 else p.after) ≤ _
  split <;> omega, h.syn⟩
set_option maxRecDepth 100000 in
set_option maxHeartbeats 2000000 in
/-- Without a write: it has crashed, or there is no room. -/
theorem pappend_full (h : Rk p b v B W) (hp : p.Ok) (s xs : Nm) (hx : xs.length ≤ 4000000000000000000) (hu : p.dead = true ∨ ¬ usedE p.L + xs.length ≤ p.room) : Calls Tryz.prog 23 #[.pointer (some ⟨b, 0, none⟩), .string (str s), .string (str xs)] W fun e W' => Stp (p.append s xs) b B v W e W' := by
  have F := Lib.hid (crashes_c h hp)
  have HP := Lib.hid hp
  have hur : usedE p.L ≤ 1048576 := Nat.le_trans hp.used hp.room
  have hrr : p.room ≤ 1048576 := hp.room
  have hsz := str_size xs
  clear h hp
  go_enter Tryz.func23, Tryz.ntmps23
  go_wp2_with fail
  refine F.out.mono ?_
  rintro e W1 ⟨c, q, rfl, hq, hc, hr⟩
  rcases hr with ⟨hd, rfl, rfl⟩ | ⟨hd, ha, rfl, rfl⟩ | ⟨hd, ha, rfl, rfl⟩
  · have HE := Lib.hid (papp_dead (s := s) (xs := xs) hd)
    have H := Lib.hid (And.intro hq hc)
    clear hq hc hd hu F
    go_wp2_with fail
    go_ret
    exact Stp.mk HE.out rfl H.out
  · have HU := Lib.hid (fun n => used_c (hq.below (below_drewN (.refl _ _) n)) HP.out.die)
    obtain ⟨⟨_, c1, _⟩, _⟩ := hq.reads
    replace hu : ¬ usedE p.L + xs.length ≤ p.room := hu.resolve_left (by simp [hd])
    have hw : IntKind.i64.wrap ((usedE p.die.L : Nat) + (xs.length : Nat) : Int) = (usedE p.die.L : Nat) + (xs.length : Nat) := IntWalk.i64_in _ (by show _ ≤ ((usedE p.L : Nat) : Int) + _ ∧ ((usedE p.L : Nat) : Int) + _ ≤ _; omega)
    have HE := Lib.hid (papp_full1 (s := s) (xs := xs) hd ha hu)
    have H := Lib.hid (And.intro hq hc)
    have hui : (p.die.room : Int) < (usedE p.die.L : Int) + (xs.length : Int) := by show (p.room : Int) < (usedE p.L : Int) + _; omega
    clear hq hc hd ha F hu
    generalize usedE p.die.L = u at *
    generalize p.die.room = rm at *
    go_wp2_with fail
    go_quiet ((go_at_call 52; exact pcalm (HU.out _)))
    go_wp2_with fail
    go_ret
    exact Stp.mk HE.out rfl ⟨H.out.1.below (below_drewN (.refl _ _) _), H.out.2.trans (Chg.of_below (below_drewN (.refl _ _) _))⟩
  · have HU := Lib.hid (fun n => used_c (hq.below (below_drewN (.refl _ _) n)) HP.out.tick')
    obtain ⟨⟨_, c1, _⟩, _⟩ := hq.reads
    replace hu : ¬ usedE p.L + xs.length ≤ p.room := hu.resolve_left (by simp [hd])
    have hw : IntKind.i64.wrap ((usedE p.tick.L : Nat) + (xs.length : Nat) : Int) = (usedE p.tick.L : Nat) + (xs.length : Nat) := IntWalk.i64_in _ (by show _ ≤ ((usedE p.L : Nat) : Int) + _ ∧ ((usedE p.L : Nat) : Int) + _ ≤ _; omega)
    have HE := Lib.hid (papp_full0 (s := s) (xs := xs) hd ha hu)
    have H := Lib.hid (And.intro hq hc)
    have hui : (p.tick.room : Int) < (usedE p.tick.L : Int) + (xs.length : Int) := by show (p.room : Int) < (usedE p.L : Int) + _; omega
    clear hq hc hd ha F hu
    generalize usedE p.tick.L = u at *
    generalize p.tick.room = rm at *
    go_wp2_with fail
    go_quiet ((go_at_call 52; exact pcalm (HU.out _)))
    go_wp2_with fail
    go_ret
    exact Stp.mk HE.out rfl ⟨H.out.1.below (below_drewN (.refl _ _) _), H.out.2.trans (Chg.of_below (below_drewN (.refl _ _) _))⟩
end
end Go.Proofs.YtialfpkmcafkmaaGreat
