/- The reference's Lost. -/
import Derived.Test.YtialfpkmcafkmaaGreatP14
namespace Go.Proofs.YtialfpkmcafkmaaGreat
open Go.RowKit
section
variable {p : Pd} {b B : Nat} {v : Value} {W : World}
/-- What Lost knows at the head of a round. -/
structure LoS (p : Pd) (keep : Int) (W : World) (k : Nat) (V : World) : Prop where
  below : Below W.heap.size W V
  it : ∃ vo, Rk ⟨(p.L.take k).map (lostE keep), p.room, -1, 0, false⟩ W.heap.size vo W.heap.size V
/-- What the region that appends knows. -/
def LoV (room : Nat) (W : World) (vo : Value) (qf : Nat) (e : Ent) (V : World) : Prop :=
  V.heap[W.heap.size]? = some (.cells #[vo, .int .i64 (room : Nat), .int .i64 (-1), .int .i64 0, .bool false] 51 (0, 0)) ∧ V.heap[qf]? = some (.cells (fileCells e) 61 (0, 0)) ∧ Below W.heap.size W V
theorem LoV.reads {room : Nat} {W V : World} {vo : Value} {qf : Nat} {e : Ent} (h : LoV room W vo qf e V) : V.cell? ⟨W.heap.size, 0, none⟩ = some vo ∧ (V.cell? ⟨qf, 0, none⟩ = some (.string (str e.name)) ∧ V.cell? ⟨qf, 1, none⟩ = some (.string (str e.bs)) ∧ V.cell? ⟨qf, 2, none⟩ = some (.int .i64 (e.syn : Nat))) :=
  ⟨cell_of h.1 0, file_cells h.2.1⟩
theorem LoV.call {room : Nat} {W V V' : World} {vo : Value} {qf : Nat} {e : Ent} (h : LoV room W vo qf e V) (hb : Below V.heap.size V V') : LoV room W vo qf e V' :=
  ⟨(hb.block _ (lt_of h.1)).trans h.1, (hb.block _ (lt_of h.2.1)).trans h.2.1, h.2.2.trans (hb.mono h.2.2.size)⟩
theorem str_cut (s : Nm) (k : Nat) (hk : k ≤ s.length) (V : World) : (Instr.slice 9 (.string (str s)) none (some (.int .i64 (k : Int))) none).run Tryz.prog V = .ok (.string (str (s.take k))) V := by
  have := cut_to s k hk
  first | exact this V | exact this
set_option maxRecDepth 100000 in
set_option maxHeartbeats 2000000 in
theorem plost_c (h : Rk p b v B W) (hp : p.Ok) (keep : Int) : Calls Tryz.prog 27 #[.pointer (some ⟨b, 0, none⟩), .int .i64 keep] W fun e W' => e = .returned (.pointer (some ⟨W.heap.size, 0, none⟩)) ∧ (∃ v', Rk (p.lost keep) W.heap.size v' W.heap.size W') ∧ Below W.heap.size W W' ∧ W.heap.size < W'.heap.size := by
  obtain ⟨⟨c0, c1, _⟩, _⟩ := h.reads
  have H := Lib.hid (And.intro h hp)
  have hfew : p.L.length ≤ 1000000 := h.few
  have hrm : p.room ≤ 1048576 := hp.room
  clear h hp
  go_enter Tryz.func27, Tryz.ntmps27
  go_wp2_with fail
  have H0 := Lib.hid (show LoS p keep W 0 (W.alloc (.cells #[.slice none 0 0, .int .i64 (p.room : Nat), .int .i64 (-1), .int .i64 0, .bool false] 51)) from
    ⟨(Below.refl _ _).alloc (Nat.le_refl _) _, _, ⟨heap_alloc_new _ _, ⟨by rfl, Or.inl ⟨rfl, rfl⟩⟩, Nat.le_refl _, by simp⟩⟩)
  go_loopw [6] (fun i wr => ∃ k : Nat, i = .int .i64 k ∧ k ≤ p.L.length ∧ LoS p keep W k wr) (fun i _ => p.L.length - (intOf i).toNat)
  case atStart => exact ⟨0, rfl, by omega, H0.out⟩
  case round =>
    clear H0
    obtain ⟨k, rfl, hk, hb, vo, ho⟩ := hrel
    have hr := H.out.1.below hb
    obtain ⟨⟨c0, _⟩, _⟩ := hr.reads
    by_cases hlt : k < p.L.length
    · obtain ⟨e, he⟩ : ∃ e, p.L[k]? = some e := ⟨_, List.getElem?_eq_getElem hlt⟩
      obtain ⟨g, c, hv, hgc⟩ := own3_ptr H.out.1.row (by omega)
      have HV := Lib.hid hv
      rw [hv] at c0
      obtain ⟨r0, r1, r2⟩ := cellsE_get he
      have y0 := own3_cell (hv ▸ hr.row) r0
      have y1 := own3_cell (hv ▸ hr.row) r1
      have y2 := own3_cell (hv ▸ hr.row) r2
      have hlti : (k : Int) < (p.L.length : Int) := by omega
      have hci : (p.L.length : Int) ≤ (c : Int) := by omega
      have hk0 : (0 : Int) ≤ (k : Int) := by omega
      have hsy := H.out.2.syn e (List.mem_of_getElem? he)
      have hz := str_size e.bs
      have hbl : e.bs.length ≤ 1048576 := by
        have := usedE_le (L := p.L) (getE_of_mem H.out.2.up (List.mem_of_getElem? he))
        have := H.out.2.used
        omega
      obtain ⟨m, hm⟩ : ∃ m, m = keptE keep e := ⟨_, rfl⟩
      obtain ⟨d, hd⟩ : ∃ d, d = tornN keep (e.bs.length - e.syn) := ⟨_, rfl⟩
      have hmd : m = e.syn + d := by rw [hm, hd]; rfl
      have hmn : min (max keep 0) ((e.bs.length : Int) - (e.syn : Int)) = (d : Int) := by rw [hd]; unfold tornN; omega
      have hdl : d ≤ e.bs.length - e.syn := by rw [hd]; unfold tornN; omega
      have hw1 : IntKind.i64.wrap ((e.bs.length : Int) - (e.syn : Int)) = (e.bs.length : Int) - (e.syn : Int) := IntWalk.i64_in _ (by omega)
      have hw2 : IntKind.i64.wrap ((e.syn : Int) + (d : Int)) = (m : Int) := by rw [IntWalk.i64_in _ (by omega)]; omega
      have hml : m ≤ e.bs.length := by omega
      have hmli : (m : Int) ≤ (e.bs.length : Int) := by omega
      have hm0 : (0 : Int) ≤ (m : Int) := by omega
      have HE := Lib.hid (show (p.L.take (k + 1)).map (lostE keep) = (p.L.take k).map (lostE keep) ++ [⟨e.name, e.bs.take m, m⟩] by
        rw [List.take_add_one, he, Option.toList, List.map_append, hm]; rfl)
      have HB := Lib.hid (And.intro hb (And.intro ho hlt))
      clear hb ho hr r0 r1 r2 he hm hd hmd hsy hdl hv
      go_wp2_with fail
      have hx := heap_alloc_new wr (.cells (fileCells e) 61)
      have hal : Below wr.heap.size wr (wr.alloc (.cells (fileCells e) 61)) := (Below.refl _ _).alloc (Nat.le_refl _) _
      have hb2 := HB.out.1.trans (hal.mono HB.out.1.size)
      have ho2 := HB.out.2.1.below hal
      have hqf : W.heap.size < wr.heap.size := lt_of HB.out.2.1.cell
      have hvq : ∀ i, vo.ownBlock = some i → i < wr.heap.size := fun i hi => (HB.out.2.1.row.lt i hi).2
      have hct := cut_to e.bs m hml
      have HS := Lib.hid (fun V (hV : LoV p.room W vo wr.heap.size e V) => hV.reads)
      have H0 : LoV p.room W vo wr.heap.size e (wr.alloc (.cells (fileCells e) 61)).drew := ⟨ho2.cell, hx, hb2.drew⟩
      have hR := ho2.below (Below.refl _ _).drew
      have hnq : ¬ some wr.heap.size = vo.ownBlock := fun h => Nat.lt_irrefl _ (hvq _ h.symm)
      have hlen : ((p.L.take k).map (lostE keep)).length < 1000000 := by rw [List.length_map, List.length_take]; omega
      clear hx hal hb2 ho2 hmn hw1 hw2 c0 y0 y1 y2 hlti hci hgc HV
      unfold fileCells at H0 hR
      generalize wr.heap.size = qf at *
      refine Drawn.start (fun V => LoV p.room W vo qf e V) (fun i => i == 17) (by kernel_rfl) ?_
      refine Drawn.take 0 (some 43) (v := ?_) rfl rfl (by kernel_rfl) (by kernel_rfl) (by kernel_rfl) (by kernel_rfl) (by kernel_rfl) rfl (fun _ _ _ h => h) (Or.inl ⟨rfl, ?_⟩) H0 ?_
      rotate_left
      · intro W hW; have hW := HS.out W hW; go_simp; try with_reducible rfl
      simp only [put_list, List.set]
      refine Drawn.take 1 (some 44) (v := ?_) rfl rfl (by kernel_rfl) (by kernel_rfl) (by kernel_rfl) (by kernel_rfl) (by kernel_rfl) rfl (fun _ _ _ h => h) (Or.inl ⟨rfl, ?_⟩) H0 ?_
      rotate_left
      · intro W hW; have hW := HS.out W hW; go_simp; try with_reducible rfl
      simp only [put_list, List.set]
      refine Drawn.take 2 (some 45) (v := ?_) rfl rfl (by kernel_rfl) (by kernel_rfl) (by kernel_rfl) (by kernel_rfl) (by kernel_rfl) rfl (fun _ _ _ h => h) (Or.inl ⟨rfl, ?_⟩) H0 ?_
      rotate_left
      · intro W hW; have hW := HS.out W hW; go_simp; try with_reducible rfl
      simp only [put_list, List.set]
      refine Drawn.take 3 (some 46) (v := ?_) rfl rfl (by kernel_rfl) (by kernel_rfl) (by kernel_rfl) (by kernel_rfl) (by kernel_rfl) rfl (fun _ _ _ h => h) (Or.inl ⟨rfl, ?_⟩) H0 ?_
      rotate_left
      · intro W hW; have hW := HS.out W hW; go_simp; try with_reducible rfl
      simp only [put_list, List.set]
      refine Drawn.take 4 (some 47) (v := ?_) rfl rfl (by kernel_rfl) (by kernel_rfl) (by kernel_rfl) (by kernel_rfl) (by kernel_rfl) rfl (fun _ _ _ h => h) (Or.inl ⟨rfl, ?_⟩) H0 ?_
      rotate_left
      · intro W hW; have hW := HS.out W hW; go_simp; try with_reducible rfl
      simp only [put_list, List.set]
      refine Drawn.take 5 (some 48) (v := ?_) rfl rfl (by kernel_rfl) (by kernel_rfl) (by kernel_rfl) (by kernel_rfl) (by kernel_rfl) rfl (fun _ _ _ h => h) (Or.inl ⟨rfl, ?_⟩) H0 ?_
      rotate_left
      · intro W hW; have hW := HS.out W hW; go_simp; try with_reducible rfl
      simp only [put_list, List.set]
      refine Drawn.take 6 (some 49) (v := ?_) rfl rfl (by kernel_rfl) (by kernel_rfl) (by kernel_rfl) (by kernel_rfl) (by kernel_rfl) rfl (fun _ _ _ h => h) (Or.inl ⟨rfl, ?_⟩) H0 ?_
      rotate_left
      · intro W hW; have hW := HS.out W hW; go_simp; try with_reducible rfl
      simp only [put_list, List.set]
      refine Drawn.take 7 (some 50) (v := ?_) rfl rfl (by kernel_rfl) (by kernel_rfl) (by kernel_rfl) (by kernel_rfl) (by kernel_rfl) rfl (fun _ _ _ h => h) (Or.inl ⟨rfl, ?_⟩) H0 ?_
      rotate_left
      · intro W hW; have hW := HS.out W hW; go_simp; try with_reducible rfl
      simp only [put_list, List.set]
      refine Drawn.take 8 (some 51) (v := ?_) rfl rfl (by kernel_rfl) (by kernel_rfl) (by kernel_rfl) (by kernel_rfl) (by kernel_rfl) rfl (fun _ _ _ h => h) (Or.inl ⟨rfl, ?_⟩) H0 ?_
      rotate_left
      · intro W hW; have hW := HS.out W hW; go_simp; try with_reducible rfl
      simp only [put_list, List.set]
      refine Drawn.take 9 (some 52) (v := ?_) rfl rfl (by kernel_rfl) (by kernel_rfl) (by kernel_rfl) (by kernel_rfl) (by kernel_rfl) rfl (fun _ _ _ h => h) (Or.inl ⟨rfl, ?_⟩) H0 ?_
      rotate_left
      · intro W hW; have hW := HS.out W hW; go_simp; try with_reducible rfl
      simp only [put_list, List.set]
      refine Drawn.take 10 (some 53) (v := ?_) rfl rfl (by kernel_rfl) (by kernel_rfl) (by kernel_rfl) (by kernel_rfl) (by kernel_rfl) rfl (fun _ _ _ h => h) (Or.inl ⟨rfl, ?_⟩) H0 ?_
      rotate_left
      · intro W hW; have hW := HS.out W hW; go_simp; try with_reducible rfl
      simp only [put_list, List.set]
      refine Drawn.take 11 (some 54) (v := ?_) rfl rfl (by kernel_rfl) (by kernel_rfl) (by kernel_rfl) (by kernel_rfl) (by kernel_rfl) rfl (fun _ _ _ h => h) (Or.inl ⟨rfl, ?_⟩) H0 ?_
      rotate_left
      · intro W hW; have hW := HS.out W hW; go_simp; try with_reducible rfl
      simp only [put_list, List.set]
      refine Drawn.take 12 (some 55) (v := ?_) rfl rfl (by kernel_rfl) (by kernel_rfl) (by kernel_rfl) (by kernel_rfl) (by kernel_rfl) rfl (fun _ _ _ h => h) (Or.inl ⟨rfl, ?_⟩) H0 ?_
      rotate_left
      · intro W hW; have hW := HS.out W hW; go_simp; try with_reducible rfl
      simp only [put_list, List.set]
      clear hct hmli hm0 hz
      generalize World.drew _ = V0 at H0 hR ⊢
      refine Drawn.only 13 (by kernel_rfl) rfl rfl (fun K hK => ?_)
      go_simp
      refine hK _ _ (fun _ _ => H0.call ((Below.refl _ _).alloc (Nat.le_refl _) _)) ?_
      clear hK K
      have hz3 := heap_alloc_new V0 (.cells #[.string (str e.name), .string (str (e.bs.take m)), .int .i64 (m : Nat)] 61)
      have H1 := H0.call ((Below.refl _ _).alloc (Nat.le_refl _) (.cells #[.string (str e.name), .string (str (e.bs.take m)), .int .i64 (m : Nat)] 61))
      replace hR := hR.below ((Below.refl _ _).alloc (Nat.le_refl _) (.cells #[.string (str e.name), .string (str (e.bs.take m)), .int .i64 (m : Nat)] 61))
      clear H0
      try simp only [put_list, List.set]
      generalize V0.alloc (.cells #[.string (str e.name), .string (str (e.bs.take m)), .int .i64 (m : Nat)] 61) = V1 at *
      generalize V0.heap.size = q3 at *
      refine Drawn.only 14 (by kernel_rfl) rfl rfl (fun K hK => ?_)
      refine wp_append_files _ _ (by rfl) W.heap.size vo ((p.L.take k).map (lostE keep)) ⟨e.name, e.bs.take m, m⟩ (by rfl) hR.row q3 (by rfl) hz3 (by exact H1.2.2.size) hlen ?_
      intro v2 V2 ho2 hg2 hb2
      obtain ⟨a2, c2, hv2⟩ := own3_any ho2
      have hcell2 : V2.heap[W.heap.size]? = _ := (hg2.block _ (lt_of H1.1) (fun h => hR.ne h.symm rfl)).trans H1.1
      have hbel2 : Below W.heap.size W V2 := H1.2.2.grown hg2 H1.2.2.size (fun j hj => (hR.row.lt j hj).1)
      have z2 := free_of hcell2 0
      have d2 := cell_of hcell2 0
      have hqf : V2.heap[qf]? = _ := (hg2.block _ (lt_of H1.2.1) hnq).trans H1.2.1
      have H2 : LoV p.room W vo qf e V2 := ⟨hcell2, hqf, hbel2⟩
      have hv2' := hv2
      subst hv2
      refine hK _ _ (fun _ _ => H2) ?_
      clear hK K hv2'
      change Drawn _ _ _ _ _ _ _ _ (Act.put ⟨List.toArray _, _⟩ (some 57) _) _
      simp only [put_list, List.set]
      refine Drawn.only 15 (by kernel_rfl) rfl rfl (fun K hK => ?_)
      go_simp
      refine hK _ _ (fun _ _ => H2) ?_
      clear hK K
      try simp only [put_list, List.set]
      refine Drawn.only 16 (by kernel_rfl) rfl rfl (fun K hK => ?_)
      go_simp
      refine hK _ _ (fun _ _ => H2) ?_
      clear hK K
      try simp only [put_list, List.set]
      refine Drawn.only 17 (by kernel_rfl) rfl rfl (fun K hK => ?_)
      go_simp
      refine hK _ _ (fun h _ => absurd h (by decide)) ?_
      clear hK K
      refine Drawn.done (by kernel_rfl) ?_ _
      have hl2 : ((p.L.take k).map (lostE keep) ++ [(⟨e.name, e.bs.take m, m⟩ : Ent)]).length = k + 1 := by rw [List.length_append, List.length_map, List.length_take]; simp; have := HB.out.2.2; omega
      rw [hl2, ← HE.out] at ho2
      have hN : Rk ⟨(p.L.take (k + 1)).map (lostE keep), p.room, -1, 0, false⟩ W.heap.size (.slice a2 (k + 1) c2) W.heap.size (V2.setCell ⟨W.heap.size, 0, none⟩ (.slice a2 (k + 1) c2)) := by
        have hl3 : ((p.L.take (k + 1)).map (lostE keep)).length = k + 1 := by rw [HE.out]; exact hl2
        refine ⟨heap_setCell_same _ _ _ _ _ _ hcell2, ?_, Nat.le_refl _, by rw [hl3]; have := HB.out.2.2; omega⟩
        rw [hl3]
        refine own3_keep ho2 fun j hj => heap_setCell_other _ _ _ _ ?_
        intro h
        obtain ⟨cs, hcs⟩ := own3_block ho2 hj
        rw [show j = W.heap.size by simpa using h, hcell2] at hcs
        injection hcs with hcs
        injection hcs with _ hcs
        exact absurd hcs (by decide)
      have HL := Lib.hid (show LoS p keep W (k + 1) _ from ⟨hbel2.setCell (p := ⟨W.heap.size, 0, none⟩) (Nat.le_refl _) _, _, hN⟩)
      have hki : IntKind.i64.wrap ((k : Int) + 1) = (k : Int) + 1 := IntWalk.i64_in _ (by omega)
      have hkl : k < p.L.length := HB.out.2.2
      clear hN hl2 z2 d2 hcell2 hqf H2 hbel2 ho2 hg2 hb2 hR HS H1 hz3 hlen HB hnq hvq
      go_wp2_with fail
      exact ⟨⟨k + 1, by go_num, by omega, HL.out⟩, by simp [intOf]; omega⟩
    · obtain rfl : k = p.L.length := by omega
      rw [List.take_length] at ho
      have HB := Lib.hid (And.intro hb ho)
      have hlti : ¬ ((p.L.length : Nat) : Int) < ((p.L.length : Nat) : Int) := by omega
      obtain ⟨va, vc, hv⟩ := own3_any H.out.1.row
      rw [hv] at c0
      have HV := Lib.hid hv
      clear hb ho hr hv
      go_wp2_with fail
      go_ret
      exact ⟨rfl, ⟨vo, HB.out.2⟩, HB.out.1, lt_of HB.out.2.cell⟩
end
end Go.Proofs.YtialfpkmcafkmaaGreat
