/- All, Whole, Mend. -/
import Derived.Test.YtialfpkmcafkmaaGreatQk
namespace Go.Proofs.YtialfpkmcafkmaaGreat
open Go.RowKit

theorem readV_eq (o : Option Ent) : readV o = .tuple #[.string (str (bsE o)), .bool o.isSome] := by cases o <;> rfl
/-- The one text of a file. -/
def wholeP (s : Nm) : Option Nm :=
  match firstP s with
  | none => none
  | some t => if s.length = t.length + 8 then some t else none
theorem Fs.exist (s : Nm) : ∃ l r, Fs s l r := by
  generalize hn : s.length = n
  induction n using Nat.strongRecOn generalizing s with
  | _ n ih =>
    cases h : firstP s with
    | none => exact ⟨[], s, rfl, by simp, h⟩
    | some t =>
      obtain ⟨h1, r, rfl⟩ := firstP_some.1 h
      rw [List.length_append, fr_len] at hn
      obtain ⟨l, q, k⟩ := ih r.length (by omega) r rfl
      exact ⟨t :: l, q, by rw [frs, List.append_assoc, ← k.eq], fun u hu => by
        rcases List.mem_cons.1 hu with rfl | hu
        · exact h1
        · exact k.all u hu, k.none⟩
theorem wholeP_some {s t : Nm} : wholeP s = some t ↔ t.length ≤ 65536 ∧ s = fr t := by
  unfold wholeP
  constructor
  · intro h
    cases hf : firstP s with
    | none => rw [hf] at h; cases h
    | some u =>
      rw [hf] at h
      simp only at h
      split at h
      · rename_i hl
        cases h
        obtain ⟨h1, r, rfl⟩ := firstP_some.1 hf
        rw [List.length_append, fr_len] at hl
        have : r = [] := List.eq_nil_of_length_eq_zero (by omega)
        exact ⟨h1, by rw [this, List.append_nil]⟩
      · cases h
  · rintro ⟨h1, rfl⟩
    have := firstP_fr h1 []
    rw [List.append_nil] at this
    rw [this]
    simp only
    rw [if_pos (fr_len t)]
section
variable {p : Pd} {d N : Nat} {F : Nat → Prop} {W : World} {name : Nm}
set_option maxRecDepth 100000 in
theorem On.all (h : On p d N F W) (hs : name.length ≤ maxLen) {l : List Nm} {r : Nm} (hF : Fs (bsE (getE p.L name)) l r) :
    Calls Tryz.prog 13 #[.pointer (some ⟨d, 0, none⟩), .string (str name)] W fun e W' => ∃ v, e = .returned v ∧ OwnS W.heap.size l v W' ∧ Below W.heap.size W W' := by
  have C1 := Lib.hid (h.read hs)
  rw [readV_eq] at C1
  have hb := bs_le h.ok name
  have C2 := Lib.hid (fun W => frames_c (bsE (getE p.L name)) (by omega) W)
  have H := Lib.hid hF
  clear h hs hF hb
  generalize bsE (getE p.L name) = bs at *
  generalize str name = y at *
  generalize Option.isSome _ = q at *
  generalize str bs = z at *
  go_enter Tryz.func13, Tryz.ntmps13
  go_wp2_with fail
  refine C1.out.mono ?_
  rintro e w1 ⟨rfl, rfl⟩
  clear C1
  go_wp2_with fail
  refine (C2.out _).mono ?_
  rintro e w2 ⟨l2, r2, v, rfl, h1, h2, h3⟩
  obtain ⟨rfl, rfl⟩ := h1.inj H.out
  obtain ⟨va, vc, rfl⟩ := h2.form
  have HQ := Lib.hid (And.intro h2 h3)
  clear h1 h2 h3 C2
  go_wp2_with fail
  go_ret
  exact ⟨_, rfl, HQ.out⟩
set_option maxRecDepth 100000 in
theorem On.whole (h : On p d N F W) (hs : name.length ≤ maxLen) :
    Calls Tryz.prog 9 #[.pointer (some ⟨d, 0, none⟩), .string (str name)] W fun e W' => e = .returned (firstV (wholeP (bsE (getE p.L name)))) ∧ Below W.heap.size W W' := by
  have C1 := Lib.hid (h.read hs)
  rw [readV_eq] at C1
  have hb := bs_le h.ok name
  have C2 := Lib.hid (fun W => first_c (bsE (getE p.L name)) (by unfold maxLen; omega) W)
  have hz := str_size (bsE (getE p.L name))
  have HW := Lib.hid (show wholeP (bsE (getE p.L name)) = (match firstP (bsE (getE p.L name)) with
    | none => none
    | some t => if (bsE (getE p.L name)).length = t.length + 8 then some t else none) from rfl)
  clear h hs
  generalize bsE (getE p.L name) = bs at *
  generalize str name = y at *
  generalize Option.isSome _ = q at *
  cases hf : firstP bs with
  | none =>
    rw [hf, firstV] at C2
    simp only [hf] at HW
    rw [HW.out]
    generalize str bs = z at *
    clear hf HW hb hz
    go_enter Tryz.func9, Tryz.ntmps9
    go_wp2_with fail
    refine C1.out.mono ?_
    rintro e w1 ⟨rfl, rfl⟩
    clear C1
    go_wp2_with fail
    refine (C2.out _).mono ?_
    rintro e w2 ⟨rfl, h3⟩
    have HQ := Lib.hid h3
    clear h3 C2
    go_wp2_with fail
    go_ret2
    exact ⟨rfl, HQ.out⟩
  | some t =>
    rw [hf, firstV] at C2
    simp only [hf] at HW
    have hzt := str_size t
    have hle : t.length ≤ bs.length := by
      obtain ⟨_, r, e⟩ := firstP_some.1 hf
      rw [e, List.length_append, fr_len]; omega
    by_cases hl : bs.length = t.length + 8
    · rw [HW.out, if_pos hl]
      have hli : ((bs.length : Int) == 8 + (t.length : Int)) = true := by rw [beq_iff_eq]; omega
      have hw : IntKind.i64.wrap (8 + (t.length : Int)) = 8 + (t.length : Int) := IntWalk.i64_in _ (by omega)
      generalize str bs = z at *
      generalize ht : str t = u at *
      have HT := Lib.hid ht
      clear hf HW hb hl hle ht
      generalize t.length = n at *
      generalize bs.length = m at *
      go_enter Tryz.func9, Tryz.ntmps9
      go_wp2_with fail
      refine C1.out.mono ?_
      rintro e w1 ⟨rfl, rfl⟩
      clear C1
      go_wp2_with fail
      refine (C2.out _).mono ?_
      rintro e w2 ⟨rfl, h3⟩
      have HQ := Lib.hid h3
      clear h3 C2
      go_wp2_with fail
      go_ret2
      exact ⟨by rw [firstV, HT.out]; rfl, HQ.out⟩
    · rw [HW.out, if_neg hl]
      have hli : ((bs.length : Int) == 8 + (t.length : Int)) = false := by rw [beq_eq_false_iff_ne]; omega
      have hw : IntKind.i64.wrap (8 + (t.length : Int)) = 8 + (t.length : Int) := IntWalk.i64_in _ (by omega)
      generalize str bs = z at *
      generalize str t = u at *
      clear hf HW hb hl hle
      generalize t.length = n at *
      generalize bs.length = m at *
      go_enter Tryz.func9, Tryz.ntmps9
      go_wp2_with fail
      refine C1.out.mono ?_
      rintro e w1 ⟨rfl, rfl⟩
      clear C1
      go_wp2_with fail
      refine (C2.out _).mono ?_
      rintro e w2 ⟨rfl, h3⟩
      have HQ := Lib.hid h3
      clear h3 C2
      go_wp2_with fail
      go_ret2
      exact ⟨rfl, HQ.out⟩
end
/-- A file's bytes are these frames now. -/
def Pd.mendW (p : Pd) (name g : Nm) : Int × Pd :=
  if g.length = (bsE (getE p.L name)).length then (0, p) else if g.length = 0 then runP p [(·.discard (fresh name)), (·.delete name)] else p.exchange name g
theorem enter_mend1 (b0 b1 : Value) (w : World) : (callFunc 39 #[b0, b1]).run Tryz.prog w = .ok (.enter 39 #[b0, b1]) w := by kernel_rfl
set_option maxRecDepth 100000 in
theorem mend1_c {V : World} {d b0 b1 : Nat} {y o : ByteArray} {r : Int} {L : World → Prop} (c0 : V.cell? ⟨b0, 0, none⟩ = some (.pointer (some ⟨d, 0, none⟩))) (c1 : V.cell? ⟨b1, 0, none⟩ = some (.string y))
    (hf : ∀ V, Calls Tryz.prog 41 #[.string y] V fun e V' => e = .returned (.string o) ∧ V' = V)
    (C : Calls Tryz.prog 40 #[.pointer (some ⟨d, 0, none⟩), .string o] V.drew fun e V' => e = .returned (.int .i64 r) ∧ L V')
    (hL : ∀ V', L V' → V'.cell? ⟨b0, 0, none⟩ = some (.pointer (some ⟨d, 0, none⟩)) ∧ V'.cell? ⟨b1, 0, none⟩ = some (.string y)) :
    Calls Tryz.prog 39 #[.pointer (some ⟨b0, 0, none⟩), .pointer (some ⟨b1, 0, none⟩)] V fun e V' => e = .returned (.int .i64 r) ∧ L V' := by
  have HC := Lib.hid C
  have HF := Lib.hid hf
  have HL := Lib.hid hL
  have HS := Lib.hid (fun (V : World) (hV : V.cell? ⟨b0, 0, none⟩ = some (.pointer (some ⟨d, 0, none⟩)) ∧ V.cell? ⟨b1, 0, none⟩ = some (.string y)) => hV)
  have H0 : V.drew.cell? ⟨b0, 0, none⟩ = some (.pointer (some ⟨d, 0, none⟩)) ∧ V.drew.cell? ⟨b1, 0, none⟩ = some (.string y) := ⟨c0, c1⟩
  clear C hf hL c0 c1
  go_enter Tryz.func39, Tryz.ntmps39
  go_wp2_with fail
  refine Drawn.start (fun V => V.cell? ⟨b0, 0, none⟩ = some (.pointer (some ⟨d, 0, none⟩)) ∧ V.cell? ⟨b1, 0, none⟩ = some (.string y)) (fun _ => false) (by kernel_rfl) ?_
  refine Drawn.take 0 (some 3) (v := ?_) rfl rfl (by kernel_rfl) (by kernel_rfl) (by kernel_rfl) (by kernel_rfl) (by kernel_rfl) rfl (fun _ _ _ h => h) (Or.inl ⟨rfl, ?_⟩) H0 ?_
  rotate_left
  · intro W hW; have hW := HS.out W hW; go_simp; try with_reducible rfl
  simp only [put_list, List.set]
  refine Drawn.take 1 (some 4) (v := ?_) rfl rfl (by kernel_rfl) (by kernel_rfl) (by kernel_rfl) (by kernel_rfl) (by kernel_rfl) rfl (fun _ _ _ h => h) (Or.inl ⟨rfl, ?_⟩) H0 ?_
  rotate_left
  · intro W hW; have hW := HS.out W hW; go_simp; try with_reducible rfl
  simp only [put_list, List.set]
  refine Drawn.only 2 (by kernel_rfl) rfl rfl (fun K hK => ?_)
  go_simp
  refine (HF.out _).mono ?_
  rintro e w6 ⟨rfl, rfl⟩
  refine hK _ _ (fun _ _ => H0) ?_
  clear hK K
  refine Drawn.only 3 (by kernel_rfl) rfl rfl (fun K hK => ?_)
  go_simp
  refine HC.out.mono ?_
  rintro e w7 ⟨rfl, hq⟩
  refine hK _ _ (fun _ _ => HL.out _ hq) ?_
  clear hK K
  have H1 := HL.out _ hq
  have HQ := Lib.hid hq
  clear hq
  refine Drawn.take 4 (some 2) (v := ?_) rfl rfl (by kernel_rfl) (by kernel_rfl) (by kernel_rfl) (by kernel_rfl) (by kernel_rfl) rfl (fun _ _ _ h => h) (Or.inl ⟨rfl, ?_⟩) H1 ?_
  rotate_left
  · intro W hW; have hW := HS.out W hW; go_simp; try with_reducible rfl
  simp only [put_list, List.set]
  refine Drawn.done (by kernel_rfl) ?_ _
  clear HS
  go_wp2_with fail
  go_ret
  exact ⟨rfl, HQ.out⟩
section
variable {p : Pd} {d N : Nat} {F : Nat → Prop} {W : World} {name : Nm}
set_option maxRecDepth 100000 in
set_option maxHeartbeats 1000000 in
theorem On.mend (h : On p d N F W) (hN : N < 990000) (hs : name.length ≤ 1000000) {l : List Nm} {r : Nm} (hF : Fs (bsE (getE p.L name)) l r) :
    Calls Tryz.prog 18 #[.pointer (some ⟨d, 0, none⟩), .string (str name)] W fun e W' => e = .returned (.int .i64 (p.mendW name (frs l)).1) ∧ Left (p.mendW name (frs l)).2 d (N + 4) F W W' := by
  have hnl : name.length ≤ maxLen := by unfold maxLen; omega
  have hfl : (fresh name).length ≤ maxLen := by unfold fresh maxLen; simp; omega
  have hb := bs_le h.ok name
  have C2 := Lib.hid (fun W => frames_c (bsE (getE p.L name)) (by omega) W)
  have hz := str_size (bsE (getE p.L name))
  have hle : (frs l).length ≤ (bsE (getE p.L name)).length := by have := hF.len; omega
  have hcut := cut_to (bsE (getE p.L name)) (frs l).length hle
  rw [show (bsE (getE p.L name)).take (frs l).length = frs l by rw [hF.eq, List.take_left]] at hcut
  have hst := str_take (bsE (getE p.L name)) (frs l).length
  rw [show (bsE (getE p.L name)).take (frs l).length = frs l by rw [hF.eq, List.take_left]] at hst
  obtain ⟨⟨a0, a1⟩, hb1, hs1⟩ := allocs2 W (.cells #[.pointer (some ⟨d, 0, none⟩)] 25) (.cells #[.string (str name)] 9)
  have hfar : ∀ k, W.heap.size ≤ k → ¬ F k := fun k hk hf => by have := h.lt hf; omega
  have hm : p.mendW name (frs l) = if (frs l).length = (bsE (getE p.L name)).length then (0, p) else if (frs l).length = 0 then runP p [(·.discard (fresh name)), (·.delete name)] else p.exchange name (frs l) := rfl
  obtain ⟨res, hres⟩ : ∃ res, res = p.mendW name (frs l) := ⟨_, rfl⟩
  rw [← hres]
  have HM := Lib.hid (hres.trans hm)
  clear hres
  have H := Lib.hid (And.intro h (And.intro hN (And.intro hnl (And.intro hfl (And.intro hF (And.intro hs hb))))))
  have HF1 := Lib.hid (fun W => fresh_c name hs W)
  clear h hN hs hnl hfl hF hm
  generalize hW2 : (W.alloc (.cells #[.pointer (some ⟨d, 0, none⟩)] 25)).alloc (.cells #[.string (str name)] 9) = W2 at *
  have C1 := Lib.hid ((H.out.1.below hb1).read H.out.2.2.1)
  rw [readV_eq] at C1
  generalize hy : str name = y at *
  generalize ho : str (fresh name) = o at *
  generalize Option.isSome _ = q at *
  have HY := Lib.hid (And.intro hy ho)
  clear hy ho
  have c0 := cell_of a0 0
  have c1 := cell_of a1 0
  simp only [List.getElem?_toArray, List.getElem?_cons_zero] at c0 c1
  go_enter Tryz.func18, Tryz.ntmps18
  go_wp2_with fail
  clear hW2
  refine C1.out.mono ?_
  rintro e w0 ⟨rfl, rfl⟩
  clear C1
  generalize hbz : str (bsE (getE p.L name)) = z at *
  go_wp2_with fail
  refine (C2.out _).mono ?_
  rintro e w1 ⟨l2, r2, v, rfl, h1, h2, h3⟩
  obtain ⟨rfl, rfl⟩ := h1.inj H.out.2.2.2.2.1
  obtain ⟨va, vc, rfl⟩ := h2.form
  have c0 : w1.cell? ⟨W.heap.size, 0, none⟩ = some (.pointer (some ⟨d, 0, none⟩)) := cell_of ((h3.block _ (by omega)).trans a0) 0
  have c1 : w1.cell? ⟨W.heap.size + 1, 0, none⟩ = some (.string y) := cell_of ((h3.block _ (by omega)).trans a1) 0
  have hbW : Below W.heap.size W w1 := hb1.trans (h3.mono (by omega))
  have k0 : w1.heap[W.heap.size]? = some (.cells #[.pointer (some ⟨d, 0, none⟩)] 25 (0, 0)) := (h3.block _ (by omega)).trans a0
  have k1 : w1.heap[W.heap.size + 1]? = some (.cells #[.string y] 9 (0, 0)) := (h3.block _ (by omega)).trans a1
  have hs3 := h3.size
  have hn1 : W.heap.size + 2 ≤ w1.heap.size := by omega
  clear h1 h2 h3 a0 a1 hb1 hs1 C2 hs3
  have hbl := H.out.2.2.2.2.2.2
  by_cases hq1 : (frs l2).length = (bsE (getE p.L name)).length
  · have hr : res = (0, p) := HM.out.trans (if_pos hq1)
    have HQ := Lib.hid (show res.1 = 0 ∧ Left res.2 d (N + 4) F W w1 by rw [hr]; exact ⟨rfl, F, (H.out.1.below hbW).mono (by omega), Chg.of_below hbW⟩)
    clear hr
    clear hbW k0 k1 hfar hcut hst
    have hqi : (((frs l2).length : Int) == ((bsE (getE p.L name)).length : Int)) = true := by rw [beq_iff_eq]; omega
    generalize (bsE (getE p.L name)).length = m at *
    generalize (frs l2).length = n at *
    go_wp2_with fail
    go_ret
    exact ⟨by rw [HQ.out.1]; rfl, HQ.out.2⟩
  · have hqi : (((frs l2).length : Int) == ((bsE (getE p.L name)).length : Int)) = false := by rw [beq_eq_false_iff_ne]; omega
    by_cases hq2 : (frs l2).length = 0
    · have HZ := Lib.hid (HM.out.trans ((if_neg hq1).trans (if_pos hq2)))
      have HX := Lib.hid (And.intro hbW (And.intro k0 (And.intro k1 (And.intro hfar hn1))))
      have hqj : (((frs l2).length : Int) == 0) = true := by rw [beq_iff_eq]; omega
      clear hbW k0 k1 hfar hcut hst hq1 hq2
      generalize (bsE (getE p.L name)).length = m at *
      generalize (frs l2).length = n at *
      go_wp2_with fail
      obtain ⟨hbW, k0, k1, hfar, hn1⟩ := HX.out
      have a3 := heap_alloc_new w1 (.cells #[.func (.func 39) #[] #[.pointer (some ⟨W.heap.size, 0, none⟩), .pointer (some ⟨W.heap.size + 1, 0, none⟩)], .func (.func 42) #[] #[.pointer (some ⟨W.heap.size, 0, none⟩), .pointer (some ⟨W.heap.size + 1, 0, none⟩)]] 71)
      have hb2 : Below w1.heap.size w1 (w1.alloc (.cells #[.func (.func 39) #[] #[.pointer (some ⟨W.heap.size, 0, none⟩), .pointer (some ⟨W.heap.size + 1, 0, none⟩)], .func (.func 42) #[] #[.pointer (some ⟨W.heap.size, 0, none⟩), .pointer (some ⟨W.heap.size + 1, 0, none⟩)]] 71)) := (Below.refl _ _).alloc (Nat.le_refl _) _
      have hs2 : (w1.alloc (.cells #[.func (.func 39) #[] #[.pointer (some ⟨W.heap.size, 0, none⟩), .pointer (some ⟨W.heap.size + 1, 0, none⟩)], .func (.func 42) #[] #[.pointer (some ⟨W.heap.size, 0, none⟩), .pointer (some ⟨W.heap.size + 1, 0, none⟩)]] 71)).heap.size = w1.heap.size + 1 := alloc_size _ _
      generalize w1.alloc (.cells #[.func (.func 39) #[] #[.pointer (some ⟨W.heap.size, 0, none⟩), .pointer (some ⟨W.heap.size + 1, 0, none⟩)], .func (.func 42) #[] #[.pointer (some ⟨W.heap.size, 0, none⟩), .pointer (some ⟨W.heap.size + 1, 0, none⟩)]] 71) = V at *
      have hbV : Below W.heap.size W V := hbW.trans (hb2.mono (by omega))
      have e0 : V.heap[W.heap.size]? = some (.cells #[.pointer (some ⟨d, 0, none⟩)] 25 (0, 0)) := (hb2.block _ (by omega)).trans k0
      have e1 : V.heap[W.heap.size + 1]? = some (.cells #[.string y] 9 (0, 0)) := (hb2.block _ (by omega)).trans k1
      have HR : Calls Tryz.prog 38 #[.slice (some ⟨w1.heap.size, 0, none⟩) 2 2] V fun e W' => e = .returned (.int .i64 (runP p [(·.discard (fresh name)), (·.delete name)]).1) ∧ Left (runP p [(·.discard (fresh name)), (·.delete name)]).2 d (N + 2) F V W' := by
        have q0 : ∀ (F' : Nat → Prop) (U : World), Chg F F' V U → U.cell? ⟨W.heap.size, 0, none⟩ = some (.pointer (some ⟨d, 0, none⟩)) := fun F' U hc => cell_of ((hc.block _ (by omega) (hfar _ (by omega))).trans e0) 0
        have q1 : ∀ (F' : Nat → Prop) (U : World), Chg F F' V U → U.cell? ⟨W.heap.size + 1, 0, none⟩ = some (.string y) := fun F' U hc => cell_of ((hc.block _ (by omega) (hfar _ (by omega))).trans e1) 0
        have hN := H.out.2.1
        refine run_c [(39, #[.pointer (some ⟨W.heap.size, 0, none⟩), .pointer (some ⟨W.heap.size + 1, 0, none⟩)]), (42, #[.pointer (some ⟨W.heap.size, 0, none⟩), .pointer (some ⟨W.heap.size + 1, 0, none⟩)])]
          [(·.discard (fresh name)), (·.delete name)] rfl w1.heap.size 2 (Nat.le_refl 2) (show 2 ≤ 1000 by omega) (H.out.1.below hbV) ?_ (by omega) (hfar _ (by omega)) ?_ ?_
        · intro k st hk
          match k, hk with
          | 0, hk => cases hk; exact cell_of a3 0
          | 1, hk => cases hk; exact cell_of a3 1
        · intro k st hk w
          match k, hk with
          | 0, hk => cases hk; exact enter_mend1 _ _ w
          | 1, hk => cases hk; exact enter_mend2 _ _ w
        · intro k st g hk hf q F' U h1 h2
          match k, hk, hf, h1 with
          | 0, hk, hf, h1 =>
            cases hk; cases hf
            have hd := (h1.below (Below.refl _ U).drew).discard (s := fresh name) (by omega) H.out.2.2.2.1
            rw [HY.out.2] at hd
            have hd2 : Calls Tryz.prog 40 #[.pointer (some ⟨d, 0, none⟩), .string o] U.drew fun e V' => e = .returned (.int .i64 (q.discard (fresh name)).1) ∧ Left (q.discard (fresh name)).2 d (N + 0 + 1) F' U V' := hd.mono fun e V' ⟨h1, F2, h3, h4⟩ => ⟨h1, F2, h3, h4.undrew⟩
            exact mend1_c (q0 _ _ h2) (q1 _ _ h2) HF1.out hd2 fun V' ⟨F2, h3, h4⟩ => ⟨q0 _ _ (h2.trans h4), q1 _ _ (h2.trans h4)⟩
          | 1, hk, hf, h1 => cases hk; cases hf; exact mend2_c (q0 _ _ h2) (q1 _ _ h2) (HY.out.1 ▸ h1.delete (by omega) H.out.2.2.1)
      have HC := Lib.hid (And.intro HR hbV)
      clear HR k0 k1 e0 e1 hb2 hs2 hfar hbV hbW a3 hn1
      refine HC.out.1.mono ?_
      rintro e W3 ⟨rfl, F', k1, k2⟩
      have HQ := Lib.hid (show Left (runP p [(·.discard (fresh name)), (·.delete name)]).2 d (N + 4) F W W3 from ⟨F', k1.mono (by omega), (Chg.of_below HC.out.2).trans k2⟩)
      clear k1 k2 HC
      go_wp2_with fail
      go_ret
      exact ⟨by rw [HZ.out]; rfl, by rw [HZ.out]; exact HQ.out⟩
    · have HZ := Lib.hid (HM.out.trans ((if_neg hq1).trans (if_neg hq2)))
      have hqj : (((frs l2).length : Int) == 0) = false := by rw [beq_eq_false_iff_ne]; omega
      have hlei : ((frs l2).length : Int) ≤ ((bsE (getE p.L name)).length : Int) := by omega
      have HG := Lib.hid (show ∀ V, (Instr.slice 9 (.string z) none (some (.int .i64 ((frs l2).length : Nat))) none).run Tryz.prog V = .ok (.string (str (frs l2))) V from hcut)
      have hE : Calls Tryz.prog 44 #[.pointer (some ⟨d, 0, none⟩), .string y, .string (str (frs l2))] w1.drew fun e V' => e = .returned (.int .i64 (p.exchange name (frs l2)).1) ∧ Left (p.exchange name (frs l2)).2 d (N + 4) F W V' ∧ V'.cell? ⟨W.heap.size, 0, none⟩ = some (.pointer (some ⟨d, 0, none⟩)) ∧ V'.cell? ⟨W.heap.size + 1, 0, none⟩ = some (.string y) := by
        have hbd : Below W.heap.size W w1.drew := hbW.drew
        have he := (H.out.1.below hbd).exchange H.out.2.1 H.out.2.2.2.2.2.1 (xs := frs l2) (by omega)
        rw [HY.out.1] at he
        exact he.mono fun e V' ⟨h1, F2, h3, h4⟩ => ⟨h1, ⟨F2, h3, (Chg.of_below hbd).trans h4⟩, cell_of ((h4.block _ (show W.heap.size < w1.heap.size by omega) (hfar _ (Nat.le_refl _))).trans k0) 0, cell_of ((h4.block _ (show W.heap.size + 1 < w1.heap.size by omega) (hfar _ (by omega))).trans k1) 0⟩
      have HE := Lib.hid hE
      clear hE hbW k0 k1 hfar hq1 hq2
      have hz2 := str_size (frs l2)
      have HS := Lib.hid (fun (V : World) (hV : V.cell? ⟨W.heap.size, 0, none⟩ = some (.pointer (some ⟨d, 0, none⟩)) ∧ V.cell? ⟨W.heap.size + 1, 0, none⟩ = some (.string y)) => hV)
      have H0 : w1.drew.cell? ⟨W.heap.size, 0, none⟩ = some (.pointer (some ⟨d, 0, none⟩)) ∧ w1.drew.cell? ⟨W.heap.size + 1, 0, none⟩ = some (.string y) := ⟨c0, c1⟩
      generalize (bsE (getE p.L name)).length = m at *
      generalize str (frs l2) = g at *
      generalize hnn : (frs l2).length = n at *
      go_wp2_with fail
      refine Drawn.start (fun V => V.cell? ⟨W.heap.size, 0, none⟩ = some (.pointer (some ⟨d, 0, none⟩)) ∧ V.cell? ⟨W.heap.size + 1, 0, none⟩ = some (.string y)) (fun _ => false) (by kernel_rfl) ?_
      refine Drawn.take 0 (some 21) (v := ?_) rfl rfl (by kernel_rfl) (by kernel_rfl) (by kernel_rfl) (by kernel_rfl) (by kernel_rfl) rfl (fun _ _ _ h => h) (Or.inl ⟨rfl, ?_⟩) H0 ?_
      rotate_left
      · intro W hW; have hW := HS.out W hW; go_simp; try with_reducible rfl
      simp only [put_list, List.set]
      refine Drawn.take 1 (some 22) (v := ?_) rfl rfl (by kernel_rfl) (by kernel_rfl) (by kernel_rfl) (by kernel_rfl) (by kernel_rfl) rfl (fun _ _ _ h => h) (Or.inl ⟨rfl, ?_⟩) H0 ?_
      rotate_left
      · intro W hW; have hW := HS.out W hW; go_simp; try with_reducible rfl
      simp only [put_list, List.set]
      refine Drawn.take 2 (some 23) (v := ?_) rfl rfl (by kernel_rfl) (by kernel_rfl) (by kernel_rfl) (by kernel_rfl) (by kernel_rfl) rfl (fun _ _ _ h => h) (Or.inl ⟨rfl, ?_⟩) H0 ?_
      rotate_left
      · intro W hW; have hW := HS.out W hW; go_simp; try with_reducible rfl
      simp only [put_list, List.set]
      refine Drawn.take 3 (some 24) (v := ?_) rfl rfl (by kernel_rfl) (by kernel_rfl) (by kernel_rfl) (by kernel_rfl) (by kernel_rfl) rfl (fun _ _ _ h => h) (Or.inl ⟨rfl, ?_⟩) H0 ?_
      rotate_left
      · intro W hW; have hW := HS.out W hW; go_simp; try with_reducible rfl
      simp only [put_list, List.set]
      refine Drawn.take 4 (some 25) (v := ?_) rfl rfl (by kernel_rfl) (by kernel_rfl) (by kernel_rfl) (by kernel_rfl) (by kernel_rfl) rfl (fun _ _ _ h => h) (Or.inl ⟨rfl, ?_⟩) H0 ?_
      rotate_left
      · intro W hW; have hW := HS.out W hW; go_simp; try with_reducible rfl
      simp only [put_list, List.set]
      refine Drawn.only 5 (by kernel_rfl) rfl rfl (fun K hK => ?_)
      go_simp
      refine HE.out.mono ?_
      rintro e w7 ⟨rfl, hq, H1⟩
      refine hK _ _ (fun _ _ => H1) ?_
      clear hK K
      have HQ := Lib.hid hq
      clear hq
      refine Drawn.take 6 (some 4) (v := ?_) rfl rfl (by kernel_rfl) (by kernel_rfl) (by kernel_rfl) (by kernel_rfl) (by kernel_rfl) rfl (fun _ _ _ h => h) (Or.inl ⟨rfl, ?_⟩) H1 ?_
      rotate_left
      · intro W hW; have hW := HS.out W hW; go_simp; try with_reducible rfl
      simp only [put_list, List.set]
      refine Drawn.done (by kernel_rfl) ?_ _
      clear HS
      go_wp2_with fail
      go_ret
      exact ⟨by rw [HZ.out]; rfl, by rw [HZ.out]; exact HQ.out⟩
end
end Go.Proofs.YtialfpkmcafkmaaGreat
