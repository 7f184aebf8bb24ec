/- The reference's Append that crashes. -/
import Derived.Test.YtialfpkmcafkmaaGreatP11
namespace Go.Proofs.YtialfpkmcafkmaaGreat
open Go.RowKit
section
variable {p : Pd} {b B : Nat} {v : Value} {W : World}
theorem torn_max (t : Int) (n : Nat) : max (min t (n : Int)) 0 = ((tornN t n : Nat) : Int) := by unfold tornN; omega
set_option maxRecDepth 100000 in
set_option maxHeartbeats 2000000 in
theorem pappend_torn (h : Rk p b v B W) (hp : p.Ok) (s xs : Nm) (hx : xs.length ≤ 1000000000) (hB : B ≤ W.heap.size) (hlen : p.L.length < 1000000) (hu : usedE p.L + xs.length ≤ p.room) (hd : p.dead = false) (ha : p.after = 0) (ht : tornN p.torn xs.length ≠ 0) : Calls Tryz.prog 23 #[.pointer (some ⟨b, 0, none⟩), .string (str s), .string (str xs)] W fun e W' => Stp (p.append s xs) b B v W e W' := by
  have F := Lib.hid (crashes_c h hp)
  have HP := Lib.hid hp
  have hur : usedE p.L ≤ 1048576 := Nat.le_trans hp.used hp.room
  have hrr : p.room ≤ 1048576 := hp.room
  have hsz := str_size xs
  clear h hp
  go_enter Tryz.func23, Tryz.ntmps23
  go_wp2_with fail
  refine F.out.mono ?_
  rintro e W1 ⟨c, q, rfl, hq, hc, hr⟩
  have hB1 : B ≤ W1.heap.size := Nat.le_trans hB hc.size
  obtain ⟨rfl, rfl⟩ : c = 1 ∧ q = p.die := by
    rcases hr with ⟨hd', _⟩ | ⟨_, _, h1, h2⟩ | ⟨_, ha', _⟩
    · rw [hd] at hd'; cases hd'
    · exact ⟨h1, h2⟩
    · exact absurd ha ha'
  have HU := Lib.hid (fun n => used_c (hq.below (below_drewN (.refl _ _) n)) HP.out.die)
  obtain ⟨⟨_, c1, _⟩, _⟩ := hq.reads
  have hw : IntKind.i64.wrap ((usedE p.die.L : Nat) + (xs.length : Nat) : Int) = (usedE p.die.L : Nat) + (xs.length : Nat) := IntWalk.i64_in _ (by show _ ≤ ((usedE p.L : Nat) : Int) + _ ∧ ((usedE p.L : Nat) : Int) + _ ≤ _; omega)
  have HE := Lib.hid (papp_torn (s := s) (xs := xs) hd ha hu ht)
  have hui : ¬ (p.die.room : Int) < (usedE p.die.L : Int) + (xs.length : Int) := by show ¬ (p.room : Int) < (usedE p.L : Int) + _; omega
  have H := Lib.hid (fun n => And.intro (hq.below (below_drewN (.refl W1.heap.size W1) n)) (hc.trans (Chg.of_below (below_drewN (.refl W1.heap.size W1) n))))
  have hmt := torn_max p.die.torn xs.length
  have hkl : tornN p.die.torn xs.length ≤ xs.length := by unfold tornN; omega
  have hkp : ¬ tornN p.die.torn xs.length = 0 := ht
  clear hq hc hd ha F hu hr ht
  rw [show tornN p.torn xs.length = tornN p.die.torn xs.length from rfl] at HE
  generalize tornN p.die.torn xs.length = k at *
  have hki : (0 : Int) < (k : Int) := by omega
  have hkl' : (k : Int) ≤ (xs.length : Int) := by omega
  have hct := cut_to xs k hkl
  have hz2 : (str (xs.take k)).size = k := by rw [str_size, List.length_take]; omega
  have hk9 : k ≤ 1000000000 := by omega
  generalize usedE p.die.L = u at *
  generalize p.die.room = rm at *
  go_wp2_with fail
  go_quiet ((go_at_call 52; exact pcalm (HU.out _)))
  replace H := Lib.hid (H.out nq)
  replace hB1 : B ≤ (W1.drewN nq).heap.size := hB1
  generalize W1.drewN nq = W2 at *
  clear HU c1 hw
  have F2 := Lib.hid (find_c H.out.1 s)
  cases hf : (findE p.die.L s).2 with
  | false =>
    have hg := findE_gone HP.out.up hf
    rw [hf] at F2
    clear hf
    generalize (findE p.die.L s).1 = n at *
    go_wp2_with fail
    refine F2.out.mono ?_
    rintro e W3 ⟨rfl, h3⟩
    have H3 := Lib.hid (And.intro (H.out.1.below h3) (H.out.2.trans (Chg.of_below h3)))
    have hB3 : B ≤ W3.heap.size := Nat.le_trans hB1 h3.size
    clear H F2 h3
    have HE2 := Lib.hid (HE.out.trans (show ((19 : Int), p.die.app s (xs.take k)) = (19, { p.die with L := putE p.die.L ⟨s, xs.take k, 0⟩ }) by unfold Pd.app; rw [show getE p.die.L s = none from hg]; rfl))
    obtain ⟨⟨_, _, _, c3, _⟩, _⟩ := (H3.out.1.below ((Below.refl W3.heap.size W3).alloc (Nat.le_refl _) (.cells #[.string (str s), .string { data := #[] }, .int .i64 0] 61))).reads
    go_wp2_with fail
    have hx4 := heap_alloc_new W3 (.cells #[.string (str s), .string { data := #[] }, .int .i64 0] 61)
    obtain ⟨x0, x1, x2⟩ := file_cells (e := ⟨s, [], 0⟩) hx4
    have z1 := free_of hx4 1
    have hal : Below W3.heap.size W3 (W3.alloc (.cells #[.string (str s), .string { data := #[] }, .int .i64 0] 61)) := (Below.refl _ _).alloc (Nat.le_refl _) _
    have hqW : W.heap.size ≤ W3.heap.size := H3.out.2.size
    have hb4 : b ≠ W3.heap.size := fun e => by have := lt_of H3.out.1.cell; omega
    have hv4 : ∀ k, Value.ownBlock v = some k → k ≠ W3.heap.size := fun k hk e => by have := (H3.out.1.row.lt k hk).2; omega
    have H4 := Lib.hid (And.intro (H3.out.1.below hal) (And.intro (H3.out.2.trans (Chg.of_below hal)) (And.intro hqW (And.intro hb4 hv4))))
    have hB4 : B ≤ (W3.alloc (.cells #[.string (str s), .string { data := #[] }, .int .i64 0] 61)).heap.size := by have := hal.size; omega
    clear H3 hx4 hal hqW hb4 hv4
    generalize (W3.alloc (.cells #[.string (str s), .string { data := #[] }, .int .i64 0] 61)) = W4 at *
    generalize W3.heap.size = q at *
    have hz3 : (str []).size = 0 := rfl
    go_region
    go_wp2_with fail
    rw [str_app, List.nil_append]
    have hk5 := H4.out.1.kept (W' := W4.setCell ⟨q, 1, none⟩ (.string (str (xs.take k)))) (heap_setCell_other _ _ _ _ H4.out.2.2.2.1) (fun k hk => heap_setCell_other _ _ _ _ (H4.out.2.2.2.2 k hk))
    have F5 := Lib.hid (pput_c (hk5.below ((Below.refl _ _).drew)) ⟨s, xs.take k, 0⟩ (by simpa [World.setCell] using hB4) hlen)
    refine F5.out.mono ?_
    rintro e W5 ⟨rfl, v5, h5, hc5⟩
    have H5 := Lib.hid (And.intro h5 (((H4.out.2.1.setNew H4.out.2.2.1 1 _).trans (Chg.of_below (Below.refl _ _).drew)).trans hc5))
    clear h5 hc5 F5 hk5
    go_wp2_with fail
    go_ret
    exact Stp.mk HE2.out rfl H5.out
  | true =>
    obtain ⟨e0, he0, hg⟩ := findE_there hf
    have hnm : e0.name = s := (getE_mem hg).2
    rw [hf] at F2
    have hlt := (List.getElem?_eq_some_iff.1 he0).1
    have hn : p.die.L.length ≤ 1000000 := H.out.1.few
    obtain ⟨g, c, rfl, hgc⟩ := own3_ptr H.out.1.row (by omega)
    have HE2 := Lib.hid (HE.out.trans (show ((19 : Int), p.die.app s (xs.take k)) = (19, { p.die with L := putE p.die.L ⟨s, e0.bs ++ xs.take k, e0.syn⟩ }) by unfold Pd.app; rw [hg]; rfl))
    have hz1 : e0.bs.length ≤ 1048576 := Nat.le_trans (usedE_le (L := p.L) hg) hur
    clear hf hg
    generalize (findE p.die.L s).1 = n at *
    have hlti : (n : Int) < (p.die.L.length : Int) := by omega
    have hci : (p.die.L.length : Int) ≤ (c : Int) := by omega
    have hk0 : (0 : Int) ≤ (n : Int) := by omega
    go_wp2_with fail
    refine F2.out.mono ?_
    rintro e W3 ⟨rfl, h3⟩
    have hk := H.out.1.below h3
    have hB3 : B ≤ W3.heap.size := Nat.le_trans hB1 h3.size
    have hal : Below W3.heap.size W3 (W3.alloc (.cells #[.string (str s), .string { data := #[] }, .int .i64 0] 61)) := (Below.refl _ _).alloc (Nat.le_refl _) _
    obtain ⟨⟨c2, _⟩, _⟩ := (hk.below hal).reads
    obtain ⟨r0, r1, r2⟩ := cellsE_get he0
    have y0 := own3_cell (hk.below hal).row r0
    have y1 := own3_cell (hk.below hal).row r1
    have y2 := own3_cell (hk.below hal).row r2
    have H3 := Lib.hid (And.intro hk (H.out.2.trans (Chg.of_below h3)))
    have HN := Lib.hid hnm
    have hz0 := str_size e0.bs
    clear H F2 h3 hk hal r0 r1 r2 he0 hnm
    obtain ⟨⟨_, _, _, c3, _⟩, _⟩ := (H3.out.1.below ((Below.refl W3.heap.size W3).alloc (Nat.le_refl _) (.cells #[.string (str e0.name), .string (str e0.bs), .int .i64 (e0.syn : Nat)] 61))).reads
    go_wp2_with fail
    have hx4 := heap_alloc_new W3 (.cells #[.string (str e0.name), .string (str e0.bs), .int .i64 (e0.syn : Nat)] 61)
    obtain ⟨x0, x1, x2⟩ := file_cells (e := ⟨e0.name, e0.bs, e0.syn⟩) hx4
    have z1 := free_of hx4 1
    have hal : Below W3.heap.size W3 (W3.alloc (.cells #[.string (str e0.name), .string (str e0.bs), .int .i64 (e0.syn : Nat)] 61)) := (Below.refl _ _).alloc (Nat.le_refl _) _
    have hqW : W.heap.size ≤ W3.heap.size := H3.out.2.size
    have hb4 : b ≠ W3.heap.size := fun e => by have := lt_of H3.out.1.cell; omega
    have hv4 : ∀ k, Value.ownBlock (.slice (some ⟨g, 0, none⟩) p.die.L.length c) = some k → k ≠ W3.heap.size := fun k hk e => by have := (H3.out.1.row.lt k hk).2; omega
    have H4 := Lib.hid (And.intro (H3.out.1.below hal) (And.intro (H3.out.2.trans (Chg.of_below hal)) (And.intro hqW (And.intro hb4 hv4))))
    have hB4 : B ≤ (W3.alloc (.cells #[.string (str e0.name), .string (str e0.bs), .int .i64 (e0.syn : Nat)] 61)).heap.size := by have := hal.size; omega
    clear H3 hx4 hal hqW hb4 hv4
    generalize (W3.alloc (.cells #[.string (str e0.name), .string (str e0.bs), .int .i64 (e0.syn : Nat)] 61)) = W4 at *
    generalize W3.heap.size = q at *
    go_region
    go_wp2_with fail
    rw [str_app, HN.out]
    have hk5 := H4.out.1.kept (W' := W4.setCell ⟨q, 1, none⟩ (.string (str (e0.bs ++ xs.take k)))) (heap_setCell_other _ _ _ _ H4.out.2.2.2.1) (fun k hk => heap_setCell_other _ _ _ _ (H4.out.2.2.2.2 k hk))
    have F5 := Lib.hid (pput_c (hk5.below ((Below.refl _ _).drew)) ⟨s, e0.bs ++ xs.take k, e0.syn⟩ (by simpa [World.setCell] using hB4) hlen)
    refine F5.out.mono ?_
    rintro e W5 ⟨rfl, v5, h5, hc5⟩
    have H5 := Lib.hid (And.intro h5 (((H4.out.2.1.setNew H4.out.2.2.1 1 _).trans (Chg.of_below (Below.refl _ _).drew)).trans hc5))
    clear h5 hc5 F5 hk5
    go_wp2_with fail
    go_ret
    exact Stp.mk HE2.out rfl H5.out
end
end Go.Proofs.YtialfpkmcafkmaaGreat
