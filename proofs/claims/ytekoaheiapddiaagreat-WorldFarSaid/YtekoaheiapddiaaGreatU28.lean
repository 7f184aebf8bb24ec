/- Merged: Fm. -/
import Derived.Test.YtekoaheiapddiaaGreatU27
section
namespace Go.Proofs.YtekoaheiapddiaaGreat.Dz
open Go.RowKit
/-- Amid a call that began in W and turns nothing of what was there: boxes. -/
structure Bl (W : World) (L : List (Nat × Obj)) (V : World) : Prop where
  below : Below W.heap.size W V
  box : ∀ x ∈ L, V.heap[x.1]? = some x.2 ∧ W.heap.size ≤ x.1
section
variable {W V V' : World} {L : List (Nat × Obj)} {q : Nat} {o o' : Obj}
theorem Bl.start (W : World) : Bl W [] W := ⟨Below.refl _ _, by simp⟩
theorem Bl.call (h : Bl W L V) (hb : Below V.heap.size V V') : Bl W L V' :=
  ⟨h.below.trans (hb.mono h.below.size), fun x hx => ⟨(hb.block _ (lt_of (h.box x hx).1)).trans (h.box x hx).1, (h.box x hx).2⟩⟩
theorem Bl.more (h : Bl W L V) (hq : V.heap[q]? = some o) (hs : W.heap.size ≤ q) : Bl W ((q, o) :: L) V :=
  ⟨h.below, fun x hx => by
    rcases List.mem_cons.1 hx with rfl | hx
    · exact ⟨hq, hs⟩
    · exact h.box x hx⟩
theorem Bl.alloc (h : Bl W L V) (o : Obj) : Bl W ((V.heap.size, o) :: L) (V.alloc o) :=
  (h.call ((Below.refl _ _).alloc (Nat.le_refl _) o)).more (heap_alloc_new _ _) h.below.size
theorem Bl.sub {L' : List (Nat × Obj)} (h : Bl W L V) (hs : ∀ x ∈ L', x ∈ L) : Bl W L' V := ⟨h.below, fun x hx => h.box x (hs x hx)⟩
theorem Bl.at (h : Bl W L V) (hm : (q, o) ∈ L) : V.heap[q]? = some o := (h.box (q, o) hm).1
theorem Bl.put (h : Bl W ((q, o) :: L) V) (hc : Chg (fun k => k = q) (fun k => k = q) V V') (ho : V'.heap[q]? = some o') (hL : ∀ x ∈ L, x.1 ≠ q) : Bl W ((q, o') :: L) V' := by
  obtain ⟨_, h2⟩ := h.box (q, o) (by simp)
  simp only at h2
  refine ⟨⟨hc.os.trans h.below.os, hc.tape.trans h.below.tape, hc.output.trans h.below.output, Nat.le_trans h.below.size hc.size, fun k hk => (hc.block k (Nat.lt_of_lt_of_le hk h.below.size) (by omega)).trans (h.below.block k hk)⟩, fun x hx => ?_⟩
  rcases List.mem_cons.1 hx with rfl | hx
  · exact ⟨ho, h2⟩
  · have h4 := h.box x (by simp [hx])
    exact ⟨(hc.block _ (lt_of h4.1) (hL x hx)).trans h4.1, h4.2⟩
end
theorem chg_set7 (V : World) (q : Nat) (u0 u1 u2 u3 u4 u5 u6 : Value) : Chg (fun k => k = q) (fun k => k = q) V (((((((V.setCell ⟨q, 0, none⟩ u0).setCell ⟨q, 1, none⟩ u1).setCell ⟨q, 2, none⟩ u2).setCell ⟨q, 3, none⟩ u3).setCell ⟨q, 4, none⟩ u4).setCell ⟨q, 5, none⟩ u5).setCell ⟨q, 6, none⟩ u6) :=
  have s : ∀ {W1 : World}, Chg (fun k => k = q) (fun k => k = q) V W1 → ∀ j u, Chg (fun k => k = q) (fun k => k = q) V (W1.setCell ⟨q, j, none⟩ u) := fun h j u => chg_set (F := fun k => k = q) (F' := fun k => k = q) h (Or.inl rfl) j u
  s (s (s (s (s (s (s (Chg.refl _ V) 0 _) 1 _) 2 _) 3 _) 4 _) 5 _) 6 _
/-- An ask's box, and a reply's, written: the call's end. -/
theorem Bl.two {W V V' : World} {L : List (Nat × Obj)} {q0 q1 : Nat} {a : AskP} {r : ReplyP} (h : Bl W L V) (ha : (q0, aO a) ∈ L) (hr : (q1, rO r) ∈ L) (hne : q0 ≠ q1) (a' : AskP) (r' : ReplyP)
    (hV : V' = ((((((((((((((((((V.setCell ⟨q0, 0, none⟩ (.int .u64 a'.id)).setCell ⟨q0, 1, none⟩ (.string (str a'.addr))).setCell ⟨q0, 2, none⟩ (.int .u64 (l3 a'.slot : Nat))).setCell ⟨q0, 3, none⟩ (.int .u64 (l2 a'.slot : Nat))).setCell ⟨q0, 4, none⟩ (.int .u64 (l1 a'.slot : Nat))).setCell ⟨q0, 5, none⟩ (.int .u64 (l0 a'.slot : Nat))).setCell ⟨q0, 6, none⟩ (.int .i64 a'.kind)).setCell ⟨q1, 0, none⟩ (.int .u64 r'.id)).setCell ⟨q1, 1, none⟩ (.int .u64 r'.nonce)).setCell ⟨q1, 2, none⟩ (.int .u64 (l3 r'.bal : Nat))).setCell ⟨q1, 3, none⟩ (.int .u64 (l2 r'.bal : Nat))).setCell ⟨q1, 4, none⟩ (.int .u64 (l1 r'.bal : Nat))).setCell ⟨q1, 5, none⟩ (.int .u64 (l0 r'.bal : Nat))).setCell ⟨q1, 6, none⟩ (.string (str r'.code))).setCell ⟨q1, 7, none⟩ (.int .u64 (l3 r'.value : Nat))).setCell ⟨q1, 8, none⟩ (.int .u64 (l2 r'.value : Nat))).setCell ⟨q1, 9, none⟩ (.int .u64 (l1 r'.value : Nat))).setCell ⟨q1, 10, none⟩ (.int .u64 (l0 r'.value : Nat)))) :
    V'.heap[q0]? = some (aO a') ∧ V'.heap[q1]? = some (rO r') ∧ Below W.heap.size W V' := by
  have hb0 : V.heap[q0]? = some (aO a) := h.at ha
  have h1 := (h.sub (L' := [(q0, aO a), (q1, rO r)]) (fun x hx => by simp only [List.mem_cons, List.not_mem_nil, or_false] at hx; rcases hx with rfl | rfl; exact ha; exact hr)).put (chg_set7 V q0 (.int .u64 a'.id) (.string (str a'.addr)) (.int .u64 (l3 a'.slot : Nat)) (.int .u64 (l2 a'.slot : Nat)) (.int .u64 (l1 a'.slot : Nat)) (.int .u64 (l0 a'.slot : Nat)) (.int .i64 a'.kind)) (o' := aO a') (set7 hb0 _ _ _ _ _ _ _) (by simp; exact Ne.symm hne)
  have hb1 := h1.at (q := q1) (o := rO r) (List.mem_cons_of_mem _ (List.mem_cons_self ..))
  have h2 := (h1.sub (L' := [(q1, rO r), (q0, aO a')]) (fun x hx => by simp only [List.mem_cons, List.not_mem_nil, or_false] at hx ⊢; rcases hx with rfl | rfl <;> simp)).put (chg_set11 _ q1 (.int .u64 r'.id) (.int .u64 r'.nonce) (.int .u64 (l3 r'.bal : Nat)) (.int .u64 (l2 r'.bal : Nat)) (.int .u64 (l1 r'.bal : Nat)) (.int .u64 (l0 r'.bal : Nat)) (.string (str r'.code)) (.int .u64 (l3 r'.value : Nat)) (.int .u64 (l2 r'.value : Nat)) (.int .u64 (l1 r'.value : Nat)) (.int .u64 (l0 r'.value : Nat))) (o' := rO r') (set11 hb1 _ _ _ _ _ _ _ _ _ _ _) (by simp; exact hne)
  rw [← hV] at h2
  exact ⟨h2.at (List.mem_cons_of_mem _ (List.mem_cons_self ..)), h2.at (List.mem_cons_self ..), h2.below⟩
/-- What a call hands back whose results are two variables of several cells and a slot. -/
theorem results_cell2_slot {P : Program} {fn : Func} {p p2 q : Tmp} {ty ty2 : TypeId} (h : fn.results = #[.cell p ty, .cell p2 ty2, .tmp q]) (tmps : Array Value) (w : World) (g g2 : Nat) (t t2 : TypeId) (cs cs2 : Array Value) (fr fr2 : Nat × Nat) (d d2 : TypeDesc) (v : Value)
    (hp : tmps.getD p undef = .pointer (some ⟨g, 0, none⟩)) (hp2 : tmps.getD p2 undef = .pointer (some ⟨g2, 0, none⟩)) (hq : tmps.getD q undef = v) (hg : w.heap[g]? = some (.cells cs t fr)) (hg2 : w.heap[g2]? = some (.cells cs2 t2 fr2))
    (hu : P.underlying ty = some d) (hd : (match d with | .struct _ | .array _ _ => true | _ => false) = true) (hi : (P.info? ty).map (·.size) = some cs.size)
    (hu2 : P.underlying ty2 = some d2) (hd2 : (match d2 with | .struct _ | .array _ _ => true | _ => false) = true) (hi2 : (P.info? ty2).map (·.size) = some cs2.size) :
    (results fn tmps).run P w = .ok (.tuple #[.agg cs, .agg cs2, v]) w := by
  have hp' : tmps[p]?.getD undef = .pointer (some ⟨g, 0, none⟩) := by simpa using hp
  have hp2' : tmps[p2]?.getD undef = .pointer (some ⟨g2, 0, none⟩) := by simpa using hp2
  have hq' : tmps[q]?.getD undef = v := by simpa using hq
  simp [results, h, hp', hp2', hq', asAddr, run_loadVar_row w g t ty cs fr d hg hu hd hi, run_loadVar_row w g2 t2 ty2 cs2 fr2 d2 hg2 hu2 hd2 hi2]
def factO : Option (AskP × ReplyP) → Value
  | none => .tuple #[askV AskP.zero, replyV ReplyP.zero, .bool false]
  | some p => .tuple #[askV p.1, replyV p.2, .bool true]
theorem zeroAsk : askCells AskP.zero = #[.int .u64 0, .string ⟨#[]⟩, .int .u64 0, .int .u64 0, .int .u64 0, .int .u64 0, .int .i64 0] := rfl
theorem askO_eq (o : Option AskP) : askO o = .tuple #[askV (o.getD AskP.zero), .bool o.isSome] := by cases o <;> rfl
theorem decode_item {x : It} {v : Value} {S : Nat → Prop} {W : World} (h : ItV S x v W) : ∃ b t u, v = .agg #[.bool b, .string t, u] ∧ SlF S x.inner u W := SlF_inner h
theorem txt_one {S : Nat → Prop} {x : It} {r : Fo} {g o : Nat} {W : World} (h : (x.fo r).At S g o W) : W.cell? ⟨g, o + 1, none⟩ = some (.string (str x.txt)) ∧ r.At S g (o + 3) W := by
  cases x with
  | text s => exact ⟨h.1.2.1, h.2⟩
  | list i => exact ⟨h.1.2.1, h.2⟩
theorem txts_two {f : Fo} (h : f.len = 2) : ∃ x y : It, f = x.fo (y.fo .nil) := by
  rcases Fo.cases_it f with rfl | ⟨x, r, rfl⟩
  · cases h
  · rcases Fo.cases_it r with rfl | ⟨y, r', rfl⟩
    · cases x <;> cases h
    · refine ⟨x, y, ?_⟩
      have : r'.len = 0 := by cases x <;> cases y <;> simp [It.fo, Fo.len] at h ⊢ <;> omega
      cases r' with
      | nil => rfl
      | text s r => simp [Fo.len] at this
      | list i r => simp [Fo.len] at this
theorem txts_it (x y : It) : txtsF (x.fo (y.fo .nil)) = [x.txt, y.txt] := by cases x <;> cases y <;> rfl
theorem slF_len {S : Nat → Prop} {f : Fo} {v : Value} {W : World} (h : SlF S f v W) : ∃ a c, v = .slice a f.len c := by
  rcases h with ⟨rfl, rfl⟩ | ⟨g, o, c, rfl, _⟩
  · exact ⟨_, _, rfl⟩
  · exact ⟨_, _, rfl⟩
set_option maxRecDepth 100000 in
set_option maxHeartbeats 8000000 in
theorem fact_c (s : List UInt8) (w : World) : Calls Tryz.prog 54 #[.string (str s)] w fun e w' => e = .returned (factO (factV s)) ∧ Below w.heap.size w w' := by
  have HM : Bl w [(w.heap.size + 1, rO ReplyP.zero), (w.heap.size, aO AskP.zero)] ((w.alloc (.cells (askCells AskP.zero) 117)).alloc (.cells (replyCells ReplyP.zero) 119)) := by
    have h1 := ((Bl.start w).alloc (aO AskP.zero)).alloc (rO ReplyP.zero)
    rw [alloc_size] at h1
    exact h1
  rw [zeroAsk, zeroCells] at HM
  go_enter Tryz.func54, Tryz.ntmps54
  go_upto_region 1 with fail
  generalize World.alloc _ _ = V at HM ⊢
  have D := Lib.hid (decode_n s V)
  have HMM := Lib.hid HM
  clear HM
  go_wp2_with fail
  refine D.out.mono ?_
  rintro e V1 ⟨v, rfl, hv, hb⟩
  obtain ⟨b1, t1, u1, rfl, hsl⟩ := decode_item hv
  obtain ⟨ua, uc, rfl⟩ := slF_len hsl
  have M1 := HMM.out.call hb
  have hVs := HMM.out.below.size
  have HSL := Lib.hid (And.intro hsl (And.intro hb hVs))
  clear hv hsl hb HMM D hVs
  have M2 := M1.alloc (.cells #[.bool b1, .string t1, .slice ua (decV s).1.inner.len uc] 198)
  obtain ⟨⟨i0, i1, i2⟩, _⟩ := cells3 (M2.at (q := V1.heap.size) (List.mem_cons_self ..))
  obtain ⟨⟨z0, z1, z2, z3, z4, z5, z6⟩, y0, y1, y2, y3, y4, y5, y6⟩ := cells7 (M2.at (q := w.heap.size) (o := aO AskP.zero) (List.mem_cons_of_mem _ (List.mem_cons_of_mem _ (List.mem_cons_self ..))))
  obtain ⟨⟨k0, k1, k2, k3, k4, k5, k6, k7, k8, k9, k10⟩, d0, d1, d2, d3, d4, d5, d6, d7, d8, d9, d10⟩ := cells11 (M2.at (q := w.heap.size + 1) (o := rO ReplyP.zero) (List.mem_cons_of_mem _ (List.mem_cons_self ..)))
  have HM2 := Lib.hid M2
  clear M1 M2
  by_cases he : (decV s).2 = 0
  · by_cases hn : (decV s).1.inner.len = 2
    · skip
      obtain ⟨x, y, hxy⟩ := txts_two hn
      have hfv : factV s = pairV x.txt y.txt := by
        unfold factV
        rw [if_neg (fun h => h he), hxy, txts_it]
      have HV := Lib.hid hfv
      obtain ⟨hsl, hb, hVs⟩ := HSL.out
      rcases hsl with ⟨_, hnil⟩ | ⟨g, o, c, hsv, hS, hc, hAt⟩
      · rw [hnil] at hn; cases hn
      obtain ⟨rfl, rfl⟩ : ua = some ⟨g, o, none⟩ ∧ uc = c := by injection hsv with q1 _ q3; exact ⟨q1, q3⟩
      rw [hxy] at hAt
      obtain ⟨c1, hAt⟩ := txt_one hAt
      obtain ⟨c2, _⟩ := txt_one hAt
      obtain ⟨og, hog⟩ : ∃ og, V1.heap[g]? = some og := ⟨V1.heap[g]'hS.2, Array.getElem?_eq_getElem hS.2⟩
      rw [hn] at HM2
      have M2 := HM2.out.more (q := g) (o := og) ((Below.heap_alloc _ _ _ hS.2).trans hog) (Nat.le_trans hVs hS.1)
      rw [he]
      have i2' : (V1.alloc (.cells #[.bool b1, .string t1, .slice (some ⟨g, o, none⟩) 2 uc] 198)).cell? ⟨V1.heap.size, 2, none⟩ = some (.slice (some ⟨g, o, none⟩) 2 uc) := (cells3 (M2.at (q := V1.heap.size) (o := .cells #[.bool b1, .string t1, .slice (some ⟨g, o, none⟩) 2 uc] 198 (0, 0)) (List.mem_cons_of_mem _ (List.mem_cons_self ..)))).1.2.2
      have c1' : (V1.alloc (.cells #[.bool b1, .string t1, .slice (some ⟨g, o, none⟩) 2 uc] 198)).cell? ⟨g, o + 1, none⟩ = some (.string (str x.txt)) := (World.cell?_of_block (a := ⟨g, o + 1, none⟩) (Below.heap_alloc _ _ _ hS.2)).trans c1
      have HC := Lib.hid (And.intro c2 (And.intro hog hS))
      have HM := Lib.hid M2
      clear hfv hb hVs hsv hS hc hAt hog c1 c2 HSL HM2 M2 he hxy i0 i1 i2 z0 z1 z2 z3 z4 z5 z6 y0 y1 y2 y3 y4 y5 y6 k0 k1 k2 k3 k4 k5 k6 k7 k8 k9 k10 d0 d1 d2 d3 d4 d5 d6 d7 d8 d9 d10
      rw [hn]
      clear hn
      go_wp2_with fail
      refine (getAsk_c x.txt _).mono ?_
      rintro e V3 ⟨o1, ho1, rfl, hb3⟩
      have M3 := HM.out.call hb3
      clear c1' i2' hb3 HM
      rw [askO_eq]
      obtain ⟨aa, haa⟩ : ∃ aa, aa = o1.getD AskP.zero := ⟨_, rfl⟩
      rw [← haa]
      have HO1 := Lib.hid (And.intro ho1 haa)
      clear ho1 haa
      have M4 := M3.alloc (aO aa)
      unfold aO askCells at M4
      unfold askV
      obtain ⟨qa, hqa⟩ : ∃ qa, qa = V3.heap.size := ⟨_, rfl⟩
      rw [← hqa] at M4
      have HQ0 := Lib.hid (lt_of (M3.at (q := w.heap.size + 1) (o := rO ReplyP.zero) (List.mem_cons_of_mem _ (List.mem_cons_of_mem _ (List.mem_cons_self ..)))))
      clear M3
      go_wp2_with fail
      rw [← hqa]
      have HQA := Lib.hid (show w.heap.size + 1 < qa by rw [hqa]; exact HQ0.out)
      clear hqa
      replace M4 : Bl w [(qa, aO aa), (g, og), (V1.heap.size, .cells #[.bool b1, .string t1, .slice (some ⟨g, o, none⟩) 2 uc] 198 (0, 0)), (w.heap.size + 1, rO ReplyP.zero), (w.heap.size, aO AskP.zero)] _ := M4.call (Below.refl _ _).drew
      refine Drawn.start (fun V => Bl w [(qa, aO aa), (g, og), (V1.heap.size, .cells #[.bool b1, .string t1, .slice (some ⟨g, o, none⟩) 2 uc] 198 (0, 0)), (w.heap.size + 1, rO ReplyP.zero), (w.heap.size, aO AskP.zero)] V) (fun _ => false) (by kernel_rfl) ?_
      have HG := Lib.hid (fun V => getReply_c aa.kind y.txt V)
      have HS := Lib.hid (fun (V : World) (hV : Bl w [(qa, aO aa), (g, og), (V1.heap.size, .cells #[.bool b1, .string t1, .slice (some ⟨g, o, none⟩) 2 uc] 198 (0, 0)), (w.heap.size + 1, rO ReplyP.zero), (w.heap.size, aO AskP.zero)] V) => (show _ ∧ _ ∧ V.cell? ⟨g, o + 3 + 1, none⟩ = some (.string (str y.txt)) from
        ⟨(cells7 (hV.at (q := qa) (o := aO aa) (List.mem_cons_self ..))).1.2.2.2.2.2.2, (cells3 (hV.at (q := V1.heap.size) (o := .cells #[.bool b1, .string t1, .slice (some ⟨g, o, none⟩) 2 uc] 198 (0, 0)) (List.mem_cons_of_mem _ (List.mem_cons_of_mem _ (List.mem_cons_self ..))))).1.2.2, (World.cell?_of_block (a := ⟨g, o + 3 + 1, none⟩) ((hV.at (q := g) (o := og) (List.mem_cons_of_mem _ (List.mem_cons_self ..))).trans HC.out.2.1.symm)).trans HC.out.1⟩))
      have H0 := M4
      generalize World.drew _ = V4 at M4 H0 ⊢
      refine Drawn.take 0 (some 36) (v := ?_) rfl rfl (by kernel_rfl) (by kernel_rfl) (by kernel_rfl) (by kernel_rfl) (by kernel_rfl) rfl (fun _ _ _ h => h) (Or.inl ⟨rfl, ?_⟩) H0 ?_
      rotate_left
      · intro W hW; have hW := HS.out W hW; go_simp; try with_reducible rfl
      simp only [put_list, List.set]
      refine Drawn.take 1 (some 37) (v := ?_) rfl rfl (by kernel_rfl) (by kernel_rfl) (by kernel_rfl) (by kernel_rfl) (by kernel_rfl) rfl (fun _ _ _ h => h) (Or.inl ⟨rfl, ?_⟩) H0 ?_
      rotate_left
      · intro W hW; have hW := HS.out W hW; go_simp; try with_reducible rfl
      simp only [put_list, List.set]
      refine Drawn.take 2 (some 38) (v := ?_) rfl rfl (by kernel_rfl) (by kernel_rfl) (by kernel_rfl) (by kernel_rfl) (by kernel_rfl) rfl (fun _ _ _ h => h) (Or.inl ⟨rfl, ?_⟩) H0 ?_
      rotate_left
      · intro W hW; have hW := HS.out W hW; go_simp; try with_reducible rfl
      simp only [put_list, List.set]
      refine Drawn.take 3 (some 39) (v := ?_) rfl rfl (by kernel_rfl) (by kernel_rfl) (by kernel_rfl) (by kernel_rfl) (by kernel_rfl) rfl (fun _ _ _ h => h) (Or.inl ⟨rfl, ?_⟩) H0 ?_
      rotate_left
      · intro W hW; have hW := HS.out W hW; go_simp; try with_reducible rfl
      simp only [put_list, List.set]
      refine Drawn.take 4 (some 40) (v := ?_) rfl rfl (by kernel_rfl) (by kernel_rfl) (by kernel_rfl) (by kernel_rfl) (by kernel_rfl) rfl (fun _ _ _ h => h) (Or.inl ⟨rfl, ?_⟩) H0 ?_
      rotate_left
      · intro W hW; have hW := HS.out W hW; go_simp; try with_reducible rfl
      simp only [put_list, List.set]
      refine Drawn.take 5 (some 41) (v := ?_) rfl rfl (by kernel_rfl) (by kernel_rfl) (by kernel_rfl) (by kernel_rfl) (by kernel_rfl) rfl (fun _ _ _ h => h) (Or.inl ⟨rfl, ?_⟩) H0 ?_
      rotate_left
      · intro W hW; have hW := HS.out W hW; go_simp; try with_reducible rfl
      simp only [put_list, List.set]
      refine Drawn.take 6 (some 42) (v := ?_) rfl rfl (by kernel_rfl) (by kernel_rfl) (by kernel_rfl) (by kernel_rfl) (by kernel_rfl) rfl (fun _ _ _ h => h) (Or.inl ⟨rfl, ?_⟩) H0 ?_
      rotate_left
      · intro W hW; have hW := HS.out W hW; go_simp; try with_reducible rfl
      simp only [put_list, List.set]
      clear H0
      refine Drawn.among [7, 11] (by kernel_rfl) (by decide) ?_
      intro i hi
      simp only [List.mem_cons, List.not_mem_nil, or_false] at hi
      rcases hi with rfl | rfl
      · refine ⟨_, rfl, rfl, fun K hK => ?_⟩
        go_simp
        refine (HG.out _).mono ?_
        rintro e V5 ⟨o2, ho2, rfl, hb⟩
        replace M4 := M4.call hb
        rw [replyO_eq]
        refine hK _ _ (fun _ _ => M4.sub (fun x hx => hx)) ?_
        clear hK K hb
        obtain ⟨rr, hrr⟩ : ∃ rr, rr = o2.getD ReplyP.zero := ⟨_, rfl⟩
        rw [← hrr]
        have HO := Lib.hid (And.intro HO1.out.1 (And.intro HO1.out.2 (And.intro ho2 hrr)))
        clear ho2 hrr
        unfold replyV
        try simp only [put_list, List.set]
        refine Drawn.take 8 (some 35) (v := ?_) rfl rfl (by kernel_rfl) (by kernel_rfl) (by kernel_rfl) (by kernel_rfl) (by kernel_rfl) rfl (fun _ _ _ h => h) (Or.inl ⟨rfl, ?_⟩) (M4.sub (fun x hx => hx)) ?_
        rotate_left
        · intro W hW; have hW := HS.out W hW; go_simp; try with_reducible rfl
        simp only [put_list, List.set]
        refine Drawn.take 9 (some 44) (v := ?_) rfl rfl (by kernel_rfl) (by kernel_rfl) (by kernel_rfl) (by kernel_rfl) (by kernel_rfl) rfl (fun _ _ _ h => h) (Or.inl ⟨rfl, ?_⟩) (M4.sub (fun x hx => hx)) ?_
        rotate_left
        · intro W hW; have hW := HS.out W hW; go_simp; try with_reducible rfl
        simp only [put_list, List.set]
        refine Drawn.take 10 (some 45) (v := ?_) rfl rfl (by kernel_rfl) (by kernel_rfl) (by kernel_rfl) (by kernel_rfl) (by kernel_rfl) rfl (fun _ _ _ h => h) (Or.inl ⟨rfl, ?_⟩) (M4.sub (fun x hx => hx)) ?_
        rotate_left
        · intro W hW; have hW := HS.out W hW; go_simp; try with_reducible rfl
        simp only [put_list, List.set]
        refine Drawn.only 11 (by kernel_rfl) rfl rfl (fun K hK => ?_)
        go_simp
        refine hK _ _ (fun _ _ => M4.call ((Below.refl _ _).alloc (Nat.le_refl _) _)) ?_
        clear hK K
        have M6 := M4.alloc (rO ReplyP.zero)
        unfold rO at M6
        rw [zeroCells] at M6
        obtain ⟨qr, hq⟩ : ∃ qr, qr = V5.heap.size := ⟨_, rfl⟩
        have hqr := Lib.hid (show qa < qr ∧ g < qr ∧ V1.heap.size < qr ∧ w.heap.size + 1 < qr ∧ w.heap.size < qr from by
          rw [hq]
          exact ⟨lt_of (M4.at (q := qa) (o := aO aa) (List.mem_cons_self ..)), lt_of (M4.at (q := g) (o := og) (List.mem_cons_of_mem _ (List.mem_cons_self ..))), lt_of (M4.at (q := V1.heap.size) (o := .cells #[.bool b1, .string t1, .slice (some ⟨g, o, none⟩) 2 uc] 198 (0, 0)) (List.mem_cons_of_mem _ (List.mem_cons_of_mem _ (List.mem_cons_self ..)))), lt_of (M4.at (q := w.heap.size + 1) (o := rO ReplyP.zero) (List.mem_cons_of_mem _ (List.mem_cons_of_mem _ (List.mem_cons_of_mem _ (List.mem_cons_self ..))))), lt_of (M4.at (q := w.heap.size) (o := aO AskP.zero) (List.mem_cons_of_mem _ (List.mem_cons_of_mem _ (List.mem_cons_of_mem _ (List.mem_cons_of_mem _ (List.mem_cons_self ..))))))⟩)
        rw [← hq] at M6 ⊢
        clear hq
        replace M4 := M6
        clear M6
        generalize World.alloc V5 _ = V6 at M4 ⊢
        try simp only [put_list, List.set]
        refine Drawn.only 12 (by kernel_rfl) rfl rfl (fun K hK => ?_)
        have hbq := M4.at (q := qr) (o := rO ReplyP.zero) (List.mem_cons_self ..)
        have kq := cells11 hbq
        obtain ⟨⟨g0, g1, g2, g3, g4, g5, g6, g7, g8, g9, g10⟩, e0, e1, e2, e3, e4, e5, e6, e7, e8, e9, e10⟩ := kq
        have HBQ := Lib.hid hbq
        clear hbq
        go_simp
        have MR := M4.put (chg_set11 _ qr (.int .u64 rr.id) (.int .u64 rr.nonce) (.int .u64 (l3 rr.bal : Nat)) (.int .u64 (l2 rr.bal : Nat)) (.int .u64 (l1 rr.bal : Nat)) (.int .u64 (l0 rr.bal : Nat)) (.string (str rr.code)) (.int .u64 (l3 rr.value : Nat)) (.int .u64 (l2 rr.value : Nat)) (.int .u64 (l1 rr.value : Nat)) (.int .u64 (l0 rr.value : Nat))) (o' := rO rr) (set11 HBQ.out _ _ _ _ _ _ _ _ _ _ _) (by intro x hx; have := hqr.out; simp only [List.mem_cons, List.not_mem_nil, or_false] at hx; rcases hx with rfl | rfl | rfl | rfl | rfl <;> (simp only [ne_eq]; omega))
        refine hK _ _ (fun _ _ => MR.sub (fun x hx => List.mem_cons_of_mem _ hx)) ?_
        clear hK K g0 g1 g2 g3 g4 g5 g6 g7 g8 g9 g10 e0 e1 e2 e3 e4 e5 e6 e7 e8 e9 e10 M4 HBQ
        generalize World.setCell _ _ _ = V7 at MR ⊢
        try simp only [put_list, put_none, List.set]
        refine Drawn.only 13 (by kernel_rfl) rfl rfl (fun K hK => ?_)
        go_simp
        refine hK _ _ (fun _ _ => MR.sub (fun x hx => List.mem_cons_of_mem _ hx)) ?_
        clear hK K
        try simp only [put_list, put_none, List.set]
        refine Drawn.done (by kernel_rfl) ?_ _
        clear HS HG HO1
        have HB := Lib.hid MR
        obtain ⟨⟨z0, z1, z2, z3, z4, z5, z6⟩, y0, y1, y2, y3, y4, y5, y6⟩ := cells7 (MR.at (q := w.heap.size) (o := aO AskP.zero) (List.mem_cons_of_mem _ (List.mem_cons_of_mem _ (List.mem_cons_of_mem _ (List.mem_cons_of_mem _ (List.mem_cons_of_mem _ (List.mem_cons_self ..)))))))
        obtain ⟨⟨k0, k1, k2, k3, k4, k5, k6, k7, k8, k9, k10⟩, d0, d1, d2, d3, d4, d5, d6, d7, d8, d9, d10⟩ := cells11 (MR.at (q := w.heap.size + 1) (o := rO ReplyP.zero) (List.mem_cons_of_mem _ (List.mem_cons_of_mem _ (List.mem_cons_of_mem _ (List.mem_cons_of_mem _ (List.mem_cons_self ..))))))
        obtain ⟨⟨v0, _⟩, _⟩ := cells7 (MR.at (q := qa) (o := aO aa) (List.mem_cons_of_mem _ (List.mem_cons_self ..)))
        obtain ⟨⟨r0, _⟩, _⟩ := cells11 (MR.at (q := qr) (o := rO rr) (List.mem_cons_self ..))
        clear MR
        obtain ⟨HO1, haa, HO2, hrr⟩ := HO.out
        have hA : getA x.txt = o1 := (getA_is x.txt).one HO1
        have hR : getR aa.kind y.txt = o2 := (getR_is aa.kind y.txt).one HO2
        have hfv : factV s = pairV x.txt y.txt := HV.out
        unfold pairV at hfv
        rw [hA] at hfv
        cases o1 with
        | none =>
          have HF := Lib.hid (show factV s = none from hfv)
          clear hfv hA hR HO1 HO2 haa hrr
          simp only [Option.isSome_none]
          clear HO
          go_wp2_with fail
          obtain ⟨q1, q2, q3⟩ := HB.out.two (q0 := w.heap.size) (q1 := w.heap.size + 1) (a := AskP.zero) (r := ReplyP.zero) (List.mem_cons_of_mem _ (List.mem_cons_of_mem _ (List.mem_cons_of_mem _ (List.mem_cons_of_mem _ (List.mem_cons_of_mem _ (List.mem_cons_self ..)))))) (List.mem_cons_of_mem _ (List.mem_cons_of_mem _ (List.mem_cons_of_mem _ (List.mem_cons_of_mem _ (List.mem_cons_self ..))))) (by omega) AskP.zero ReplyP.zero rfl
          rw [HF.out]
          exact bodyPost_ret (results_cell2_slot Tryz.results54 _ _ _ _ _ _ _ _ _ _ _ _ _ rfl rfl rfl q1 q2 Tryz.underlying117 rfl (by kernel_rfl) Tryz.underlying119 rfl (by kernel_rfl)) rfl ⟨rfl, q3⟩
        | some a1 =>
          obtain rfl : aa = a1 := haa
          simp only at hfv
          rw [hR] at hfv
          simp only [Option.isSome_some]
          cases o2 with
          | none =>
            have HF := Lib.hid (show factV s = none from hfv)
            clear hfv hA hR HO1 HO2 hrr
            simp only [Option.isSome_none]
            clear HO
            go_wp2_with fail
            obtain ⟨q1, q2, q3⟩ := HB.out.two (q0 := w.heap.size) (q1 := w.heap.size + 1) (a := AskP.zero) (r := ReplyP.zero) (List.mem_cons_of_mem _ (List.mem_cons_of_mem _ (List.mem_cons_of_mem _ (List.mem_cons_of_mem _ (List.mem_cons_of_mem _ (List.mem_cons_self ..)))))) (List.mem_cons_of_mem _ (List.mem_cons_of_mem _ (List.mem_cons_of_mem _ (List.mem_cons_of_mem _ (List.mem_cons_self ..))))) (by omega) AskP.zero ReplyP.zero rfl
            rw [HF.out]
            exact bodyPost_ret (results_cell2_slot Tryz.results54 _ _ _ _ _ _ _ _ _ _ _ _ _ rfl rfl rfl q1 q2 Tryz.underlying117 rfl (by kernel_rfl) Tryz.underlying119 rfl (by kernel_rfl)) rfl ⟨rfl, q3⟩
          | some r1 =>
            obtain rfl : rr = r1 := hrr
            simp only [Option.isSome_some] at hfv ⊢
            by_cases hi1 : aa.id = 0
            · by_cases hi2 : rr.id = 0
              · rw [if_pos ⟨hi1, hi2⟩] at hfv
                have HF := Lib.hid hfv
                have hj1 : (aa.id : Int) = 0 := by omega
                have hj2 : (rr.id : Int) = 0 := by omega
                have HJ := Lib.hid (And.intro hi1 hi2)
                rw [hj1] at v0
                rw [hj2] at r0
                clear hfv hA hR HO1 HO2 hi1 hi2 HO hj1 hj2
                go_wp2_with fail
                clear v0 r0 z0 z1 z2 z3 z4 z5 z6 y0 y1 y2 y3 y4 y5 y6 k0 k1 k2 k3 k4 k5 k6 k7 k8 k9 k10 d0 d1 d2 d3 d4 d5 d6 d7 d8 d9 d10
                have hqq := hqr.out
                have hqa : w.heap.size + 1 < qa := HQA.out
                have MS := (HB.out.call (Below.refl _ _).drew).sub (L' := [(w.heap.size, aO AskP.zero), (w.heap.size + 1, rO ReplyP.zero), (qa, aO aa), (qr, rO rr)]) (fun x hx => by simp only [List.mem_cons, List.not_mem_nil, or_false] at hx; rcases hx with rfl | rfl | rfl | rfl; exact (List.mem_cons_of_mem _ (List.mem_cons_of_mem _ (List.mem_cons_of_mem _ (List.mem_cons_of_mem _ (List.mem_cons_of_mem _ (List.mem_cons_self ..)))))); exact (List.mem_cons_of_mem _ (List.mem_cons_of_mem _ (List.mem_cons_of_mem _ (List.mem_cons_of_mem _ (List.mem_cons_self ..))))); exact (List.mem_cons_of_mem _ (List.mem_cons_self ..)); exact (List.mem_cons_self ..))
                clear HB
                have HS := Lib.hid (fun (V : World) (hV : Bl w [(qa, aO aa), (qr, rO rr)] V) => (show _ ∧ _ from ⟨(cells7 (hV.at (q := qa) (o := aO aa) (List.mem_cons_self ..))).1, (cells11 (hV.at (q := qr) (o := rO rr) (List.mem_cons_of_mem _ (List.mem_cons_self ..)))).1⟩))
                refine Drawn.start (fun V => Bl w [(qa, aO aa), (qr, rO rr)] V) (fun _ => false) (by kernel_rfl) ?_
                have H0 : Bl w [(qa, aO aa), (qr, rO rr)] V7.drew := MS.sub (fun x hx => List.mem_cons_of_mem _ (List.mem_cons_of_mem _ hx))
                generalize World.drew _ = V8 at MS H0 ⊢
                refine Drawn.take 0 (some 64) (v := ?_) rfl rfl (by kernel_rfl) (by kernel_rfl) (by kernel_rfl) (by kernel_rfl) (by kernel_rfl) rfl (fun _ _ _ h => h) (Or.inl ⟨rfl, ?_⟩) H0 ?_
                rotate_left
                · intro W hW; have hW := HS.out W hW; go_simp; try with_reducible rfl
                simp only [put_list, List.set]
                refine Drawn.take 1 (some 65) (v := ?_) rfl rfl (by kernel_rfl) (by kernel_rfl) (by kernel_rfl) (by kernel_rfl) (by kernel_rfl) rfl (fun _ _ _ h => h) (Or.inl ⟨rfl, ?_⟩) H0 ?_
                rotate_left
                · intro W hW; have hW := HS.out W hW; go_simp; try with_reducible rfl
                simp only [put_list, List.set]
                have hb0 := MS.at (q := w.heap.size) (o := aO AskP.zero) (List.mem_cons_self ..)
                obtain ⟨⟨z0, z1, z2, z3, z4, z5, z6⟩, y0, y1, y2, y3, y4, y5, y6⟩ := cells7 hb0
                have HB0 := Lib.hid hb0
                clear hb0
                refine Drawn.only 2 (by kernel_rfl) rfl rfl (fun K hK => ?_)
                go_simp
                have MT := MS.put (chg_set7 V8 w.heap.size (.int .u64 aa.id) (.string (str aa.addr)) (.int .u64 (l3 aa.slot : Nat)) (.int .u64 (l2 aa.slot : Nat)) (.int .u64 (l1 aa.slot : Nat)) (.int .u64 (l0 aa.slot : Nat)) (.int .i64 aa.kind)) (o' := aO aa) (set7 HB0.out _ _ _ _ _ _ _) (by intro x hx; simp only [List.mem_cons, List.not_mem_nil, or_false] at hx; rcases hx with rfl | rfl | rfl <;> (simp only [ne_eq]; omega))
                refine hK _ _ (fun _ _ => MT.sub (fun x hx => List.mem_cons_of_mem _ (List.mem_cons_of_mem _ hx))) ?_
                clear hK K z0 z1 z2 z3 z4 z5 z6 y0 y1 y2 y3 y4 y5 y6 MS H0 HB0
                generalize World.setCell _ _ _ = V9 at MT ⊢
                try simp only [put_list, put_none, List.set]
                have hb1 := MT.at (q := w.heap.size + 1) (o := rO ReplyP.zero) (List.mem_cons_of_mem _ (List.mem_cons_self ..))
                obtain ⟨⟨k0, k1, k2, k3, k4, k5, k6, k7, k8, k9, k10⟩, d0, d1, d2, d3, d4, d5, d6, d7, d8, d9, d10⟩ := cells11 hb1
                have HB1 := Lib.hid hb1
                clear hb1
                refine Drawn.only 3 (by kernel_rfl) rfl rfl (fun K hK => ?_)
                go_simp
                have MU := (MT.sub (L' := [(w.heap.size + 1, rO ReplyP.zero), (w.heap.size, aO aa), (qa, aO aa), (qr, rO rr)]) (fun x hx => by simp only [List.mem_cons, List.not_mem_nil, or_false] at hx ⊢; rcases hx with rfl | rfl | rfl | rfl <;> simp)).put (chg_set11 V9 (w.heap.size + 1) (.int .u64 rr.id) (.int .u64 rr.nonce) (.int .u64 (l3 rr.bal : Nat)) (.int .u64 (l2 rr.bal : Nat)) (.int .u64 (l1 rr.bal : Nat)) (.int .u64 (l0 rr.bal : Nat)) (.string (str rr.code)) (.int .u64 (l3 rr.value : Nat)) (.int .u64 (l2 rr.value : Nat)) (.int .u64 (l1 rr.value : Nat)) (.int .u64 (l0 rr.value : Nat))) (o' := rO rr) (set11 HB1.out _ _ _ _ _ _ _ _ _ _ _) (by intro x hx; simp only [List.mem_cons, List.not_mem_nil, or_false] at hx; rcases hx with rfl | rfl | rfl <;> (simp only [ne_eq]; omega))
                refine hK _ _ (fun _ _ => MU.sub (fun x hx => List.mem_cons_of_mem _ (List.mem_cons_of_mem _ hx))) ?_
                clear hK K k0 k1 k2 k3 k4 k5 k6 k7 k8 k9 k10 d0 d1 d2 d3 d4 d5 d6 d7 d8 d9 d10 MT HB1
                generalize World.setCell _ _ _ = V10 at MU ⊢
                try simp only [put_list, put_none, List.set]
                refine Drawn.only 4 (by kernel_rfl) rfl rfl (fun K hK => ?_)
                go_simp
                refine hK _ _ (fun _ _ => MU.sub (fun x hx => List.mem_cons_of_mem _ (List.mem_cons_of_mem _ hx))) ?_
                clear hK K
                try simp only [put_list, put_none, List.set]
                refine Drawn.done (by kernel_rfl) ?_ _
                have q1 := MU.at (q := w.heap.size) (o := aO aa) (List.mem_cons_of_mem _ (List.mem_cons_self ..))
                have q2 := MU.at (q := w.heap.size + 1) (o := rO rr) (List.mem_cons_self ..)
                have q3 := MU.below
                clear MU HS
                have HQ := Lib.hid (And.intro q1 (And.intro q2 q3))
                clear q1 q2 q3
                go_wp2_with fail
                obtain ⟨q1, q2, q3⟩ := HQ.out
                rw [HF.out]
                exact bodyPost_ret (results_cell2_slot Tryz.results54 _ _ _ _ _ _ _ _ _ _ _ _ _ rfl rfl rfl q1 q2 Tryz.underlying117 rfl (by kernel_rfl) Tryz.underlying119 rfl (by kernel_rfl)) rfl ⟨rfl, q3⟩
              · have HF := Lib.hid (show factV s = none by rw [hfv, if_neg (fun h => hi2 h.2)])
                have hj1 : (aa.id : Int) = 0 := by omega
                have hj2 : ¬ (rr.id : Int) = 0 := by omega
                clear hfv hA hR HO1 HO2 hi1 hi2
                clear HO
                go_wp2_with fail
                obtain ⟨q1, q2, q3⟩ := HB.out.two (q0 := w.heap.size) (q1 := w.heap.size + 1) (a := AskP.zero) (r := ReplyP.zero) (List.mem_cons_of_mem _ (List.mem_cons_of_mem _ (List.mem_cons_of_mem _ (List.mem_cons_of_mem _ (List.mem_cons_of_mem _ (List.mem_cons_self ..)))))) (List.mem_cons_of_mem _ (List.mem_cons_of_mem _ (List.mem_cons_of_mem _ (List.mem_cons_of_mem _ (List.mem_cons_self ..))))) (by omega) AskP.zero ReplyP.zero rfl
                rw [HF.out]
                exact bodyPost_ret (results_cell2_slot Tryz.results54 _ _ _ _ _ _ _ _ _ _ _ _ _ rfl rfl rfl q1 q2 Tryz.underlying117 rfl (by kernel_rfl) Tryz.underlying119 rfl (by kernel_rfl)) rfl ⟨rfl, q3⟩
            · have HF := Lib.hid (show factV s = none by rw [hfv, if_neg (fun h => hi1 h.1)])
              have hj1 : ¬ (aa.id : Int) = 0 := by omega
              clear hfv hA hR HO1 HO2 hi1
              clear HO
              go_wp2_with fail
              obtain ⟨q1, q2, q3⟩ := HB.out.two (q0 := w.heap.size) (q1 := w.heap.size + 1) (a := AskP.zero) (r := ReplyP.zero) (List.mem_cons_of_mem _ (List.mem_cons_of_mem _ (List.mem_cons_of_mem _ (List.mem_cons_of_mem _ (List.mem_cons_of_mem _ (List.mem_cons_self ..)))))) (List.mem_cons_of_mem _ (List.mem_cons_of_mem _ (List.mem_cons_of_mem _ (List.mem_cons_of_mem _ (List.mem_cons_self ..))))) (by omega) AskP.zero ReplyP.zero rfl
              rw [HF.out]
              exact bodyPost_ret (results_cell2_slot Tryz.results54 _ _ _ _ _ _ _ _ _ _ _ _ _ rfl rfl rfl q1 q2 Tryz.underlying117 rfl (by kernel_rfl) Tryz.underlying119 rfl (by kernel_rfl)) rfl ⟨rfl, q3⟩
      · refine ⟨_, rfl, rfl, fun K hK => ?_⟩
        go_simp
        refine hK _ _ (fun _ _ => M4.call ((Below.refl _ _).alloc (Nat.le_refl _) _)) ?_
        clear hK K
        have M6 := M4.alloc (rO ReplyP.zero)
        unfold rO at M6
        rw [zeroCells] at M6
        obtain ⟨qr, hq⟩ : ∃ qr, qr = V4.heap.size := ⟨_, rfl⟩
        have hqr := Lib.hid (show qa < qr ∧ g < qr ∧ V1.heap.size < qr ∧ w.heap.size + 1 < qr ∧ w.heap.size < qr from by
          rw [hq]
          exact ⟨lt_of (M4.at (q := qa) (o := aO aa) (List.mem_cons_self ..)), lt_of (M4.at (q := g) (o := og) (List.mem_cons_of_mem _ (List.mem_cons_self ..))), lt_of (M4.at (q := V1.heap.size) (o := .cells #[.bool b1, .string t1, .slice (some ⟨g, o, none⟩) 2 uc] 198 (0, 0)) (List.mem_cons_of_mem _ (List.mem_cons_of_mem _ (List.mem_cons_self ..)))), lt_of (M4.at (q := w.heap.size + 1) (o := rO ReplyP.zero) (List.mem_cons_of_mem _ (List.mem_cons_of_mem _ (List.mem_cons_of_mem _ (List.mem_cons_self ..))))), lt_of (M4.at (q := w.heap.size) (o := aO AskP.zero) (List.mem_cons_of_mem _ (List.mem_cons_of_mem _ (List.mem_cons_of_mem _ (List.mem_cons_of_mem _ (List.mem_cons_self ..))))))⟩)
        rw [← hq] at M6 ⊢
        clear hq
        replace M4 := M6
        clear M6
        generalize World.alloc V4 _ = V6 at M4 ⊢
        try simp only [put_list, List.set]
        refine Drawn.only 7 (by kernel_rfl) rfl rfl (fun K hK => ?_)
        go_simp
        refine (HG.out _).mono ?_
        rintro e V5 ⟨o2, ho2, rfl, hb⟩
        replace M4 := M4.call hb
        rw [replyO_eq]
        refine hK _ _ (fun _ _ => M4.sub (fun x hx => List.mem_cons_of_mem _ hx)) ?_
        clear hK K hb
        obtain ⟨rr, hrr⟩ : ∃ rr, rr = o2.getD ReplyP.zero := ⟨_, rfl⟩
        rw [← hrr]
        have HO := Lib.hid (And.intro HO1.out.1 (And.intro HO1.out.2 (And.intro ho2 hrr)))
        clear ho2 hrr
        unfold replyV
        try simp only [put_list, List.set]
        refine Drawn.take 8 (some 35) (v := ?_) rfl rfl (by kernel_rfl) (by kernel_rfl) (by kernel_rfl) (by kernel_rfl) (by kernel_rfl) rfl (fun _ _ _ h => h) (Or.inl ⟨rfl, ?_⟩) (M4.sub (fun x hx => List.mem_cons_of_mem _ hx)) ?_
        rotate_left
        · intro W hW; have hW := HS.out W hW; go_simp; try with_reducible rfl
        simp only [put_list, List.set]
        refine Drawn.take 9 (some 44) (v := ?_) rfl rfl (by kernel_rfl) (by kernel_rfl) (by kernel_rfl) (by kernel_rfl) (by kernel_rfl) rfl (fun _ _ _ h => h) (Or.inl ⟨rfl, ?_⟩) (M4.sub (fun x hx => List.mem_cons_of_mem _ hx)) ?_
        rotate_left
        · intro W hW; have hW := HS.out W hW; go_simp; try with_reducible rfl
        simp only [put_list, List.set]
        refine Drawn.take 10 (some 45) (v := ?_) rfl rfl (by kernel_rfl) (by kernel_rfl) (by kernel_rfl) (by kernel_rfl) (by kernel_rfl) rfl (fun _ _ _ h => h) (Or.inl ⟨rfl, ?_⟩) (M4.sub (fun x hx => List.mem_cons_of_mem _ hx)) ?_
        rotate_left
        · intro W hW; have hW := HS.out W hW; go_simp; try with_reducible rfl
        simp only [put_list, List.set]
        refine Drawn.only 12 (by kernel_rfl) rfl rfl (fun K hK => ?_)
        have hbq := M4.at (q := qr) (o := rO ReplyP.zero) (List.mem_cons_self ..)
        have kq := cells11 hbq
        obtain ⟨⟨g0, g1, g2, g3, g4, g5, g6, g7, g8, g9, g10⟩, e0, e1, e2, e3, e4, e5, e6, e7, e8, e9, e10⟩ := kq
        have HBQ := Lib.hid hbq
        clear hbq
        go_simp
        have MR := M4.put (chg_set11 _ qr (.int .u64 rr.id) (.int .u64 rr.nonce) (.int .u64 (l3 rr.bal : Nat)) (.int .u64 (l2 rr.bal : Nat)) (.int .u64 (l1 rr.bal : Nat)) (.int .u64 (l0 rr.bal : Nat)) (.string (str rr.code)) (.int .u64 (l3 rr.value : Nat)) (.int .u64 (l2 rr.value : Nat)) (.int .u64 (l1 rr.value : Nat)) (.int .u64 (l0 rr.value : Nat))) (o' := rO rr) (set11 HBQ.out _ _ _ _ _ _ _ _ _ _ _) (by intro x hx; have := hqr.out; simp only [List.mem_cons, List.not_mem_nil, or_false] at hx; rcases hx with rfl | rfl | rfl | rfl | rfl <;> (simp only [ne_eq]; omega))
        refine hK _ _ (fun _ _ => MR.sub (fun x hx => List.mem_cons_of_mem _ hx)) ?_
        clear hK K g0 g1 g2 g3 g4 g5 g6 g7 g8 g9 g10 e0 e1 e2 e3 e4 e5 e6 e7 e8 e9 e10 M4 HBQ
        generalize World.setCell _ _ _ = V7 at MR ⊢
        try simp only [put_list, put_none, List.set]
        refine Drawn.only 13 (by kernel_rfl) rfl rfl (fun K hK => ?_)
        go_simp
        refine hK _ _ (fun _ _ => MR.sub (fun x hx => List.mem_cons_of_mem _ hx)) ?_
        clear hK K
        try simp only [put_list, put_none, List.set]
        refine Drawn.done (by kernel_rfl) ?_ _
        clear HS HG HO1
        have HB := Lib.hid MR
        obtain ⟨⟨z0, z1, z2, z3, z4, z5, z6⟩, y0, y1, y2, y3, y4, y5, y6⟩ := cells7 (MR.at (q := w.heap.size) (o := aO AskP.zero) (List.mem_cons_of_mem _ (List.mem_cons_of_mem _ (List.mem_cons_of_mem _ (List.mem_cons_of_mem _ (List.mem_cons_of_mem _ (List.mem_cons_self ..)))))))
        obtain ⟨⟨k0, k1, k2, k3, k4, k5, k6, k7, k8, k9, k10⟩, d0, d1, d2, d3, d4, d5, d6, d7, d8, d9, d10⟩ := cells11 (MR.at (q := w.heap.size + 1) (o := rO ReplyP.zero) (List.mem_cons_of_mem _ (List.mem_cons_of_mem _ (List.mem_cons_of_mem _ (List.mem_cons_of_mem _ (List.mem_cons_self ..))))))
        obtain ⟨⟨v0, _⟩, _⟩ := cells7 (MR.at (q := qa) (o := aO aa) (List.mem_cons_of_mem _ (List.mem_cons_self ..)))
        obtain ⟨⟨r0, _⟩, _⟩ := cells11 (MR.at (q := qr) (o := rO rr) (List.mem_cons_self ..))
        clear MR
        obtain ⟨HO1, haa, HO2, hrr⟩ := HO.out
        have hA : getA x.txt = o1 := (getA_is x.txt).one HO1
        have hR : getR aa.kind y.txt = o2 := (getR_is aa.kind y.txt).one HO2
        have hfv : factV s = pairV x.txt y.txt := HV.out
        unfold pairV at hfv
        rw [hA] at hfv
        cases o1 with
        | none =>
          have HF := Lib.hid (show factV s = none from hfv)
          clear hfv hA hR HO1 HO2 haa hrr
          simp only [Option.isSome_none]
          clear HO
          go_wp2_with fail
          obtain ⟨q1, q2, q3⟩ := HB.out.two (q0 := w.heap.size) (q1 := w.heap.size + 1) (a := AskP.zero) (r := ReplyP.zero) (List.mem_cons_of_mem _ (List.mem_cons_of_mem _ (List.mem_cons_of_mem _ (List.mem_cons_of_mem _ (List.mem_cons_of_mem _ (List.mem_cons_self ..)))))) (List.mem_cons_of_mem _ (List.mem_cons_of_mem _ (List.mem_cons_of_mem _ (List.mem_cons_of_mem _ (List.mem_cons_self ..))))) (by omega) AskP.zero ReplyP.zero rfl
          rw [HF.out]
          exact bodyPost_ret (results_cell2_slot Tryz.results54 _ _ _ _ _ _ _ _ _ _ _ _ _ rfl rfl rfl q1 q2 Tryz.underlying117 rfl (by kernel_rfl) Tryz.underlying119 rfl (by kernel_rfl)) rfl ⟨rfl, q3⟩
        | some a1 =>
          obtain rfl : aa = a1 := haa
          simp only at hfv
          rw [hR] at hfv
          simp only [Option.isSome_some]
          cases o2 with
          | none =>
            have HF := Lib.hid (show factV s = none from hfv)
            clear hfv hA hR HO1 HO2 hrr
            simp only [Option.isSome_none]
            clear HO
            go_wp2_with fail
            obtain ⟨q1, q2, q3⟩ := HB.out.two (q0 := w.heap.size) (q1 := w.heap.size + 1) (a := AskP.zero) (r := ReplyP.zero) (List.mem_cons_of_mem _ (List.mem_cons_of_mem _ (List.mem_cons_of_mem _ (List.mem_cons_of_mem _ (List.mem_cons_of_mem _ (List.mem_cons_self ..)))))) (List.mem_cons_of_mem _ (List.mem_cons_of_mem _ (List.mem_cons_of_mem _ (List.mem_cons_of_mem _ (List.mem_cons_self ..))))) (by omega) AskP.zero ReplyP.zero rfl
            rw [HF.out]
            exact bodyPost_ret (results_cell2_slot Tryz.results54 _ _ _ _ _ _ _ _ _ _ _ _ _ rfl rfl rfl q1 q2 Tryz.underlying117 rfl (by kernel_rfl) Tryz.underlying119 rfl (by kernel_rfl)) rfl ⟨rfl, q3⟩
          | some r1 =>
            obtain rfl : rr = r1 := hrr
            simp only [Option.isSome_some] at hfv ⊢
            by_cases hi1 : aa.id = 0
            · by_cases hi2 : rr.id = 0
              · rw [if_pos ⟨hi1, hi2⟩] at hfv
                have HF := Lib.hid hfv
                have hj1 : (aa.id : Int) = 0 := by omega
                have hj2 : (rr.id : Int) = 0 := by omega
                have HJ := Lib.hid (And.intro hi1 hi2)
                rw [hj1] at v0
                rw [hj2] at r0
                clear hfv hA hR HO1 HO2 hi1 hi2 HO hj1 hj2
                go_wp2_with fail
                clear v0 r0 z0 z1 z2 z3 z4 z5 z6 y0 y1 y2 y3 y4 y5 y6 k0 k1 k2 k3 k4 k5 k6 k7 k8 k9 k10 d0 d1 d2 d3 d4 d5 d6 d7 d8 d9 d10
                have hqq := hqr.out
                have hqa : w.heap.size + 1 < qa := HQA.out
                have MS := (HB.out.call (Below.refl _ _).drew).sub (L' := [(w.heap.size, aO AskP.zero), (w.heap.size + 1, rO ReplyP.zero), (qa, aO aa), (qr, rO rr)]) (fun x hx => by simp only [List.mem_cons, List.not_mem_nil, or_false] at hx; rcases hx with rfl | rfl | rfl | rfl; exact (List.mem_cons_of_mem _ (List.mem_cons_of_mem _ (List.mem_cons_of_mem _ (List.mem_cons_of_mem _ (List.mem_cons_of_mem _ (List.mem_cons_self ..)))))); exact (List.mem_cons_of_mem _ (List.mem_cons_of_mem _ (List.mem_cons_of_mem _ (List.mem_cons_of_mem _ (List.mem_cons_self ..))))); exact (List.mem_cons_of_mem _ (List.mem_cons_self ..)); exact (List.mem_cons_self ..))
                clear HB
                have HS := Lib.hid (fun (V : World) (hV : Bl w [(qa, aO aa), (qr, rO rr)] V) => (show _ ∧ _ from ⟨(cells7 (hV.at (q := qa) (o := aO aa) (List.mem_cons_self ..))).1, (cells11 (hV.at (q := qr) (o := rO rr) (List.mem_cons_of_mem _ (List.mem_cons_self ..)))).1⟩))
                refine Drawn.start (fun V => Bl w [(qa, aO aa), (qr, rO rr)] V) (fun _ => false) (by kernel_rfl) ?_
                have H0 : Bl w [(qa, aO aa), (qr, rO rr)] V7.drew := MS.sub (fun x hx => List.mem_cons_of_mem _ (List.mem_cons_of_mem _ hx))
                generalize World.drew _ = V8 at MS H0 ⊢
                refine Drawn.take 0 (some 64) (v := ?_) rfl rfl (by kernel_rfl) (by kernel_rfl) (by kernel_rfl) (by kernel_rfl) (by kernel_rfl) rfl (fun _ _ _ h => h) (Or.inl ⟨rfl, ?_⟩) H0 ?_
                rotate_left
                · intro W hW; have hW := HS.out W hW; go_simp; try with_reducible rfl
                simp only [put_list, List.set]
                refine Drawn.take 1 (some 65) (v := ?_) rfl rfl (by kernel_rfl) (by kernel_rfl) (by kernel_rfl) (by kernel_rfl) (by kernel_rfl) rfl (fun _ _ _ h => h) (Or.inl ⟨rfl, ?_⟩) H0 ?_
                rotate_left
                · intro W hW; have hW := HS.out W hW; go_simp; try with_reducible rfl
                simp only [put_list, List.set]
                have hb0 := MS.at (q := w.heap.size) (o := aO AskP.zero) (List.mem_cons_self ..)
                obtain ⟨⟨z0, z1, z2, z3, z4, z5, z6⟩, y0, y1, y2, y3, y4, y5, y6⟩ := cells7 hb0
                have HB0 := Lib.hid hb0
                clear hb0
                refine Drawn.only 2 (by kernel_rfl) rfl rfl (fun K hK => ?_)
                go_simp
                have MT := MS.put (chg_set7 V8 w.heap.size (.int .u64 aa.id) (.string (str aa.addr)) (.int .u64 (l3 aa.slot : Nat)) (.int .u64 (l2 aa.slot : Nat)) (.int .u64 (l1 aa.slot : Nat)) (.int .u64 (l0 aa.slot : Nat)) (.int .i64 aa.kind)) (o' := aO aa) (set7 HB0.out _ _ _ _ _ _ _) (by intro x hx; simp only [List.mem_cons, List.not_mem_nil, or_false] at hx; rcases hx with rfl | rfl | rfl <;> (simp only [ne_eq]; omega))
                refine hK _ _ (fun _ _ => MT.sub (fun x hx => List.mem_cons_of_mem _ (List.mem_cons_of_mem _ hx))) ?_
                clear hK K z0 z1 z2 z3 z4 z5 z6 y0 y1 y2 y3 y4 y5 y6 MS H0 HB0
                generalize World.setCell _ _ _ = V9 at MT ⊢
                try simp only [put_list, put_none, List.set]
                have hb1 := MT.at (q := w.heap.size + 1) (o := rO ReplyP.zero) (List.mem_cons_of_mem _ (List.mem_cons_self ..))
                obtain ⟨⟨k0, k1, k2, k3, k4, k5, k6, k7, k8, k9, k10⟩, d0, d1, d2, d3, d4, d5, d6, d7, d8, d9, d10⟩ := cells11 hb1
                have HB1 := Lib.hid hb1
                clear hb1
                refine Drawn.only 3 (by kernel_rfl) rfl rfl (fun K hK => ?_)
                go_simp
                have MU := (MT.sub (L' := [(w.heap.size + 1, rO ReplyP.zero), (w.heap.size, aO aa), (qa, aO aa), (qr, rO rr)]) (fun x hx => by simp only [List.mem_cons, List.not_mem_nil, or_false] at hx ⊢; rcases hx with rfl | rfl | rfl | rfl <;> simp)).put (chg_set11 V9 (w.heap.size + 1) (.int .u64 rr.id) (.int .u64 rr.nonce) (.int .u64 (l3 rr.bal : Nat)) (.int .u64 (l2 rr.bal : Nat)) (.int .u64 (l1 rr.bal : Nat)) (.int .u64 (l0 rr.bal : Nat)) (.string (str rr.code)) (.int .u64 (l3 rr.value : Nat)) (.int .u64 (l2 rr.value : Nat)) (.int .u64 (l1 rr.value : Nat)) (.int .u64 (l0 rr.value : Nat))) (o' := rO rr) (set11 HB1.out _ _ _ _ _ _ _ _ _ _ _) (by intro x hx; simp only [List.mem_cons, List.not_mem_nil, or_false] at hx; rcases hx with rfl | rfl | rfl <;> (simp only [ne_eq]; omega))
                refine hK _ _ (fun _ _ => MU.sub (fun x hx => List.mem_cons_of_mem _ (List.mem_cons_of_mem _ hx))) ?_
                clear hK K k0 k1 k2 k3 k4 k5 k6 k7 k8 k9 k10 d0 d1 d2 d3 d4 d5 d6 d7 d8 d9 d10 MT HB1
                generalize World.setCell _ _ _ = V10 at MU ⊢
                try simp only [put_list, put_none, List.set]
                refine Drawn.only 4 (by kernel_rfl) rfl rfl (fun K hK => ?_)
                go_simp
                refine hK _ _ (fun _ _ => MU.sub (fun x hx => List.mem_cons_of_mem _ (List.mem_cons_of_mem _ hx))) ?_
                clear hK K
                try simp only [put_list, put_none, List.set]
                refine Drawn.done (by kernel_rfl) ?_ _
                have q1 := MU.at (q := w.heap.size) (o := aO aa) (List.mem_cons_of_mem _ (List.mem_cons_self ..))
                have q2 := MU.at (q := w.heap.size + 1) (o := rO rr) (List.mem_cons_self ..)
                have q3 := MU.below
                clear MU HS
                have HQ := Lib.hid (And.intro q1 (And.intro q2 q3))
                clear q1 q2 q3
                go_wp2_with fail
                obtain ⟨q1, q2, q3⟩ := HQ.out
                rw [HF.out]
                exact bodyPost_ret (results_cell2_slot Tryz.results54 _ _ _ _ _ _ _ _ _ _ _ _ _ rfl rfl rfl q1 q2 Tryz.underlying117 rfl (by kernel_rfl) Tryz.underlying119 rfl (by kernel_rfl)) rfl ⟨rfl, q3⟩
              · have HF := Lib.hid (show factV s = none by rw [hfv, if_neg (fun h => hi2 h.2)])
                have hj1 : (aa.id : Int) = 0 := by omega
                have hj2 : ¬ (rr.id : Int) = 0 := by omega
                clear hfv hA hR HO1 HO2 hi1 hi2
                clear HO
                go_wp2_with fail
                obtain ⟨q1, q2, q3⟩ := HB.out.two (q0 := w.heap.size) (q1 := w.heap.size + 1) (a := AskP.zero) (r := ReplyP.zero) (List.mem_cons_of_mem _ (List.mem_cons_of_mem _ (List.mem_cons_of_mem _ (List.mem_cons_of_mem _ (List.mem_cons_of_mem _ (List.mem_cons_self ..)))))) (List.mem_cons_of_mem _ (List.mem_cons_of_mem _ (List.mem_cons_of_mem _ (List.mem_cons_of_mem _ (List.mem_cons_self ..))))) (by omega) AskP.zero ReplyP.zero rfl
                rw [HF.out]
                exact bodyPost_ret (results_cell2_slot Tryz.results54 _ _ _ _ _ _ _ _ _ _ _ _ _ rfl rfl rfl q1 q2 Tryz.underlying117 rfl (by kernel_rfl) Tryz.underlying119 rfl (by kernel_rfl)) rfl ⟨rfl, q3⟩
            · have HF := Lib.hid (show factV s = none by rw [hfv, if_neg (fun h => hi1 h.1)])
              have hj1 : ¬ (aa.id : Int) = 0 := by omega
              clear hfv hA hR HO1 HO2 hi1
              clear HO
              go_wp2_with fail
              obtain ⟨q1, q2, q3⟩ := HB.out.two (q0 := w.heap.size) (q1 := w.heap.size + 1) (a := AskP.zero) (r := ReplyP.zero) (List.mem_cons_of_mem _ (List.mem_cons_of_mem _ (List.mem_cons_of_mem _ (List.mem_cons_of_mem _ (List.mem_cons_of_mem _ (List.mem_cons_self ..)))))) (List.mem_cons_of_mem _ (List.mem_cons_of_mem _ (List.mem_cons_of_mem _ (List.mem_cons_of_mem _ (List.mem_cons_self ..))))) (by omega) AskP.zero ReplyP.zero rfl
              rw [HF.out]
              exact bodyPost_ret (results_cell2_slot Tryz.results54 _ _ _ _ _ _ _ _ _ _ _ _ _ rfl rfl rfl q1 q2 Tryz.underlying117 rfl (by kernel_rfl) Tryz.underlying119 rfl (by kernel_rfl)) rfl ⟨rfl, q3⟩
    · have hf : factV s = none := by
        unfold factV
        rw [if_neg (fun h => h he)]
        split
        · rename_i t1 t2 hh
          have := txtsF_len (decV s).1.inner
          rw [hh] at this
          exact absurd this.symm hn
        · rfl
      have HF := Lib.hid hf
      have hni : ¬ (((decV s).1.inner.len : Nat) : Int) = 2 := by omega
      rw [he]
      clear hf hn he HSL
      generalize (decV s).1.inner.len = n at *
      go_wp2_with fail
      obtain ⟨q1, q2, q3⟩ := HM2.out.two (List.mem_cons_of_mem _ (List.mem_cons_of_mem _ (List.mem_cons_self ..))) (List.mem_cons_of_mem _ (List.mem_cons_self ..)) (by omega) AskP.zero ReplyP.zero rfl
      rw [HF.out]
      exact bodyPost_ret (results_cell2_slot Tryz.results54 _ _ _ _ _ _ _ _ _ _ _ _ _ rfl rfl rfl q1 q2 Tryz.underlying117 rfl (by kernel_rfl) Tryz.underlying119 rfl (by kernel_rfl)) rfl ⟨rfl, q3⟩
  · have hf : factV s = none := by unfold factV; rw [if_pos he]
    have HF := Lib.hid hf
    have hni : ¬ (((decV s).2 : Nat) : Int) = 0 := by omega
    clear hf he HSL
    generalize (decV s).2 = n at *
    generalize (decV s).1.inner.len = n2 at *
    go_wp2_with fail
    obtain ⟨q1, q2, q3⟩ := HM2.out.two (List.mem_cons_of_mem _ (List.mem_cons_of_mem _ (List.mem_cons_self ..))) (List.mem_cons_of_mem _ (List.mem_cons_self ..)) (by omega) AskP.zero ReplyP.zero rfl
    rw [HF.out]
    exact bodyPost_ret (results_cell2_slot Tryz.results54 _ _ _ _ _ _ _ _ _ _ _ _ _ rfl rfl rfl q1 q2 Tryz.underlying117 rfl (by kernel_rfl) Tryz.underlying119 rfl (by kernel_rfl)) rfl ⟨rfl, q3⟩
end Go.Proofs.YtekoaheiapddiaaGreat.Dz
end
