/- The reference's Append that crashes and writes nothing; Append. -/
import Derived.Test.YtialfpkmcafkmaaGreatP12
namespace Go.Proofs.YtialfpkmcafkmaaGreat
open Go.RowKit
section
variable {p : Pd} {b B : Nat} {v : Value} {W : World}
set_option maxRecDepth 100000 in
set_option maxHeartbeats 2000000 in
theorem pappend_none (h : Rk p b v B W) (hp : p.Ok) (s xs : Nm) (hx : xs.length ≤ 1000000000) (hB : B ≤ W.heap.size) (hu : usedE p.L + xs.length ≤ p.room) (hd : p.dead = false) (ha : p.after = 0) (ht : tornN p.torn xs.length = 0) : Calls Tryz.prog 23 #[.pointer (some ⟨b, 0, none⟩), .string (str s), .string (str xs)] W fun e W' => Stp (p.append s xs) b B v W e W' := by
  have F := Lib.hid (crashes_c h hp)
  have HP := Lib.hid hp
  have hur : usedE p.L ≤ 1048576 := Nat.le_trans hp.used hp.room
  have hrr : p.room ≤ 1048576 := hp.room
  have hsz := str_size xs
  clear h hp
  go_enter Tryz.func23, Tryz.ntmps23
  go_wp2_with fail
  refine F.out.mono ?_
  rintro e W1 ⟨c, q, rfl, hq, hc, hr⟩
  have hB1 : B ≤ W1.heap.size := Nat.le_trans hB hc.size
  obtain ⟨rfl, rfl⟩ : c = 1 ∧ q = p.die := by
    rcases hr with ⟨hd', _⟩ | ⟨_, _, h1, h2⟩ | ⟨_, ha', _⟩
    · rw [hd] at hd'; cases hd'
    · exact ⟨h1, h2⟩
    · exact absurd ha ha'
  have HU := Lib.hid (fun n => used_c (hq.below (below_drewN (.refl _ _) n)) HP.out.die)
  obtain ⟨⟨_, c1, _⟩, _⟩ := hq.reads
  have hw : IntKind.i64.wrap ((usedE p.die.L : Nat) + (xs.length : Nat) : Int) = (usedE p.die.L : Nat) + (xs.length : Nat) := IntWalk.i64_in _ (by show _ ≤ ((usedE p.L : Nat) : Int) + _ ∧ ((usedE p.L : Nat) : Int) + _ ≤ _; omega)
  have HE := Lib.hid (papp_none (s := s) (xs := xs) hd ha ht)
  have hui : ¬ (p.die.room : Int) < (usedE p.die.L : Int) + (xs.length : Int) := by show ¬ (p.room : Int) < (usedE p.L : Int) + _; omega
  have H := Lib.hid (fun n => And.intro (hq.below (below_drewN (.refl W1.heap.size W1) n)) (hc.trans (Chg.of_below (below_drewN (.refl W1.heap.size W1) n))))
  have hmt := torn_max p.die.torn xs.length
  rw [show tornN p.die.torn xs.length = 0 from ht] at hmt
  clear hq hc hd ha F hu hr ht
  generalize usedE p.die.L = u at *
  generalize p.die.room = rm at *
  go_wp2_with fail
  go_quiet ((go_at_call 52; exact pcalm (HU.out _)))
  replace H := Lib.hid (H.out nq)
  replace hB1 : B ≤ (W1.drewN nq).heap.size := hB1
  generalize W1.drewN nq = W2 at *
  clear HU c1 hw
  have F2 := Lib.hid (find_c H.out.1 s)
  cases hf : (findE p.die.L s).2 with
  | false =>
    have hg := findE_gone HP.out.up hf
    rw [hf] at F2
    clear hf
    generalize (findE p.die.L s).1 = n at *
    go_wp2_with fail
    refine F2.out.mono ?_
    rintro e W3 ⟨rfl, h3⟩
    have H3 := Lib.hid (And.intro (H.out.1.below h3) (H.out.2.trans (Chg.of_below h3)))
    have hB3 : B ≤ W3.heap.size := Nat.le_trans hB1 h3.size
    clear H F2 h3
    obtain ⟨⟨_, _, _, c3, _⟩, _⟩ := (H3.out.1.below ((Below.refl W3.heap.size W3).alloc (Nat.le_refl _) (.cells #[.string (str s), .string { data := #[] }, .int .i64 0] 61))).reads
    go_wp2_with fail
    have hal : Below W3.heap.size W3 (W3.alloc (.cells #[.string (str s), .string { data := #[] }, .int .i64 0] 61)) := (Below.refl _ _).alloc (Nat.le_refl _) _
    go_ret
    exact Stp.mk HE.out rfl ⟨H3.out.1.below hal, H3.out.2.trans (Chg.of_below hal)⟩
  | true =>
    obtain ⟨e0, he0, hg⟩ := findE_there hf
    have hnm : e0.name = s := (getE_mem hg).2
    rw [hf] at F2
    have hlt := (List.getElem?_eq_some_iff.1 he0).1
    have hn : p.die.L.length ≤ 1000000 := H.out.1.few
    obtain ⟨g, c, rfl, hgc⟩ := own3_ptr H.out.1.row (by omega)
    have hz1 : e0.bs.length ≤ 1048576 := Nat.le_trans (usedE_le (L := p.L) hg) hur
    clear hf hg
    generalize (findE p.die.L s).1 = n at *
    have hlti : (n : Int) < (p.die.L.length : Int) := by omega
    have hci : (p.die.L.length : Int) ≤ (c : Int) := by omega
    have hk0 : (0 : Int) ≤ (n : Int) := by omega
    go_wp2_with fail
    refine F2.out.mono ?_
    rintro e W3 ⟨rfl, h3⟩
    have hk := H.out.1.below h3
    have hB3 : B ≤ W3.heap.size := Nat.le_trans hB1 h3.size
    have hal : Below W3.heap.size W3 (W3.alloc (.cells #[.string (str s), .string { data := #[] }, .int .i64 0] 61)) := (Below.refl _ _).alloc (Nat.le_refl _) _
    obtain ⟨⟨c2, _⟩, _⟩ := (hk.below hal).reads
    obtain ⟨r0, r1, r2⟩ := cellsE_get he0
    have y0 := own3_cell (hk.below hal).row r0
    have y1 := own3_cell (hk.below hal).row r1
    have y2 := own3_cell (hk.below hal).row r2
    have H3 := Lib.hid (And.intro hk (H.out.2.trans (Chg.of_below h3)))
    have HN := Lib.hid hnm
    have hz0 := str_size e0.bs
    clear H F2 h3 hk hal r0 r1 r2 he0 hnm
    obtain ⟨⟨_, _, _, c3, _⟩, _⟩ := (H3.out.1.below ((Below.refl W3.heap.size W3).alloc (Nat.le_refl _) (.cells #[.string (str e0.name), .string (str e0.bs), .int .i64 (e0.syn : Nat)] 61))).reads
    go_wp2_with fail
    have hal : Below W3.heap.size W3 (W3.alloc (.cells #[.string (str e0.name), .string (str e0.bs), .int .i64 (e0.syn : Nat)] 61)) := (Below.refl _ _).alloc (Nat.le_refl _) _
    go_ret
    exact Stp.mk HE.out rfl ⟨H3.out.1.below hal, H3.out.2.trans (Chg.of_below hal)⟩
theorem pappend_c (h : Rk p b v B W) (hp : p.Ok) (s xs : Nm) (hx : xs.length ≤ 1000000000) (hB : B ≤ W.heap.size) (hlen : p.L.length < 1000000) : Calls Tryz.prog 23 #[.pointer (some ⟨b, 0, none⟩), .string (str s), .string (str xs)] W fun e W' => Stp (p.append s xs) b B v W e W' := by
  by_cases hu : p.dead = true ∨ ¬ usedE p.L + xs.length ≤ p.room
  · exact pappend_full h hp s xs (by omega) hu
  · have hd : p.dead = false := by cases hd : p.dead with
      | true => exact absurd (Or.inl hd) hu
      | false => rfl
    have hu' : usedE p.L + xs.length ≤ p.room := Classical.byContradiction fun h => hu (Or.inr h)
    by_cases ha : p.after = 0
    · by_cases ht : tornN p.torn xs.length = 0
      · exact pappend_none h hp s xs hx hB hu' hd ha ht
      · exact pappend_torn h hp s xs hx hB hlen hu' hd ha ht
    · exact pappend_all h hp s xs hx hB hlen hu' hd ha
end
end Go.Proofs.YtialfpkmcafkmaaGreat
