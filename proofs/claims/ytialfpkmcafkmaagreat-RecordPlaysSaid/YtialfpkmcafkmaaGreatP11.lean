/- The reference's Append of all. -/
import Derived.Test.YtialfpkmcafkmaaGreatP10
namespace Go.Proofs.YtialfpkmcafkmaaGreat
open Go.RowKit
section
variable {p : Pd} {b B : Nat} {v : Value} {W : World}
theorem nil_str (l : Nm) : ({ data := #[] } : ByteArray) ++ str l = str l := by
  apply ByteArray.ext; simp [str]
set_option maxRecDepth 100000 in
set_option maxHeartbeats 2000000 in
theorem pappend_all (h : Rk p b v B W) (hp : p.Ok) (s xs : Nm) (hx : xs.length ≤ 1000000000) (hB : B ≤ W.heap.size) (hlen : p.L.length < 1000000) (hu : usedE p.L + xs.length ≤ p.room) (hd : p.dead = false) (ha : p.after ≠ 0) : Calls Tryz.prog 23 #[.pointer (some ⟨b, 0, none⟩), .string (str s), .string (str xs)] W fun e W' => Stp (p.append s xs) b B v W e W' := by
  have F := Lib.hid (crashes_c h hp)
  have HP := Lib.hid hp
  have hur : usedE p.L ≤ 1048576 := Nat.le_trans hp.used hp.room
  have hrr : p.room ≤ 1048576 := hp.room
  have hsz := str_size xs
  clear h hp
  go_enter Tryz.func23, Tryz.ntmps23
  go_wp2_with fail
  refine F.out.mono ?_
  rintro e W1 ⟨c, q, rfl, hq, hc, hr⟩
  have hB1 : B ≤ W1.heap.size := Nat.le_trans hB hc.size
  obtain ⟨rfl, rfl⟩ : c = 0 ∧ q = p.tick := by
    rcases hr with ⟨hd', _⟩ | ⟨_, ha', _⟩ | ⟨_, _, h1, h2⟩
    · rw [hd] at hd'; cases hd'
    · exact absurd ha' ha
    · exact ⟨h1, h2⟩
  have HU := Lib.hid (fun n => used_c (hq.below (below_drewN (.refl _ _) n)) HP.out.tick')
  obtain ⟨⟨_, c1, _⟩, _⟩ := hq.reads
  have hw : IntKind.i64.wrap ((usedE p.tick.L : Nat) + (xs.length : Nat) : Int) = (usedE p.tick.L : Nat) + (xs.length : Nat) := IntWalk.i64_in _ (by show _ ≤ ((usedE p.L : Nat) : Int) + _ ∧ ((usedE p.L : Nat) : Int) + _ ≤ _; omega)
  have HE := Lib.hid (papp_all (s := s) (xs := xs) hd ha hu)
  have hui : ¬ (p.tick.room : Int) < (usedE p.tick.L : Int) + (xs.length : Int) := by show ¬ (p.room : Int) < (usedE p.L : Int) + _; omega
  have H := Lib.hid (fun n => And.intro (hq.below (below_drewN (.refl W1.heap.size W1) n)) (hc.trans (Chg.of_below (below_drewN (.refl W1.heap.size W1) n))))
  clear hq hc hd ha F hu hr
  generalize usedE p.tick.L = u at *
  generalize p.tick.room = rm at *
  go_wp2_with fail
  go_quiet ((go_at_call 52; exact pcalm (HU.out _)))
  replace H := Lib.hid (H.out nq)
  replace hB1 : B ≤ (W1.drewN nq).heap.size := hB1
  generalize W1.drewN nq = W2 at *
  clear HU c1 hw
  have F2 := Lib.hid (find_c H.out.1 s)
  cases hf : (findE p.tick.L s).2 with
  | false =>
    have hg := findE_gone HP.out.up hf
    rw [hf] at F2
    clear hf
    generalize (findE p.tick.L s).1 = n at *
    go_wp2_with fail
    refine F2.out.mono ?_
    rintro e W3 ⟨rfl, h3⟩
    have H3 := Lib.hid (And.intro (H.out.1.below h3) (H.out.2.trans (Chg.of_below h3)))
    have hB3 : B ≤ W3.heap.size := Nat.le_trans hB1 h3.size
    clear H F2 h3
    have HE2 := Lib.hid (HE.out.trans (show ((0 : Int), p.tick.app s xs) = (0, { p.tick with L := putE p.tick.L ⟨s, xs, 0⟩ }) by unfold Pd.app; rw [show getE p.tick.L s = none from hg]; rfl))
    go_wp2_with fail
    rw [nil_str xs]
    have hal : Below W3.heap.size W3 (W3.alloc (.cells #[.string (str s), .string (str xs), .int .i64 0] 61)) := (Below.refl _ _).alloc (Nat.le_refl _) _
    have F4 := Lib.hid (pput_c (H3.out.1.below hal) ⟨s, xs, 0⟩ (by have := hal.size; omega) hlen)
    refine F4.out.mono ?_
    rintro e W5 ⟨rfl, v5, h5, hc5⟩
    have H5 := Lib.hid (And.intro h5 ((H3.out.2.trans (Chg.of_below hal)).trans hc5))
    clear h5 hc5 F4 hal H3
    go_wp2_with fail
    go_ret
    exact Stp.mk HE2.out rfl H5.out
  | true =>
    obtain ⟨e0, he0, hg⟩ := findE_there hf
    have hnm : e0.name = s := (getE_mem hg).2
    rw [hf] at F2
    have hlt := (List.getElem?_eq_some_iff.1 he0).1
    have hn : p.tick.L.length ≤ 1000000 := H.out.1.few
    obtain ⟨g, c, rfl, hgc⟩ := own3_ptr H.out.1.row (by omega)
    have HE2 := Lib.hid (HE.out.trans (show ((0 : Int), p.tick.app s xs) = (0, { p.tick with L := putE p.tick.L ⟨s, e0.bs ++ xs, e0.syn⟩ }) by unfold Pd.app; rw [hg]; rfl))
    have hz1 : e0.bs.length ≤ 1048576 := Nat.le_trans (usedE_le (L := p.L) hg) hur
    clear hf hg
    generalize (findE p.tick.L s).1 = n at *
    have hlti : (n : Int) < (p.tick.L.length : Int) := by omega
    have hci : (p.tick.L.length : Int) ≤ (c : Int) := by omega
    have hk0 : (0 : Int) ≤ (n : Int) := by omega
    go_wp2_with fail
    refine F2.out.mono ?_
    rintro e W3 ⟨rfl, h3⟩
    have hk := H.out.1.below h3
    have hB3 : B ≤ W3.heap.size := Nat.le_trans hB1 h3.size
    have hal : Below W3.heap.size W3 (W3.alloc (.cells #[.string (str s), .string { data := #[] }, .int .i64 0] 61)) := (Below.refl _ _).alloc (Nat.le_refl _) _
    obtain ⟨⟨c2, _⟩, _⟩ := (hk.below hal).reads
    obtain ⟨r0, r1, r2⟩ := cellsE_get he0
    have y0 := own3_cell (hk.below hal).row r0
    have y1 := own3_cell (hk.below hal).row r1
    have y2 := own3_cell (hk.below hal).row r2
    have H3 := Lib.hid (And.intro hk (H.out.2.trans (Chg.of_below h3)))
    have HN := Lib.hid hnm
    have hz0 := str_size e0.bs
    clear H F2 h3 hk hal r0 r1 r2 he0 hnm
    go_wp2_with fail
    rw [str_app, HN.out]
    have hal : Below W3.heap.size W3 (W3.alloc (.cells #[.string (str s), .string (str (e0.bs ++ xs)), .int .i64 (e0.syn : Nat)] 61)) := (Below.refl _ _).alloc (Nat.le_refl _) _
    have F4 := Lib.hid (pput_c (H3.out.1.below hal) ⟨s, e0.bs ++ xs, e0.syn⟩ (by have := hal.size; omega) hlen)
    refine F4.out.mono ?_
    rintro e W5 ⟨rfl, v5, h5, hc5⟩
    have H5 := Lib.hid (And.intro h5 ((H3.out.2.trans (Chg.of_below hal)).trans hc5))
    clear h5 hc5 F4 hal H3
    go_wp2_with fail
    go_ret
    exact Stp.mk HE2.out rfl H5.out
end
end Go.Proofs.YtialfpkmcafkmaaGreat
