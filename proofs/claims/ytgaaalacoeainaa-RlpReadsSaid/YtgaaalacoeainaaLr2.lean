/- The reference's item of an item. -/
import Derived.Test.YtgaaalacoeainaaLr1
import Derived.Test.YtgaaalacoeainaaDraw
namespace Go.Proofs.Ytgaaalacoeainaa
open Go.RowKit

theorem Fo.len_enc (f : Fo) : f.len ≤ f.enc.length := by
  induction f with
  | nil => simp [Fo.len]
  | text s r ih => have := encT_pos s; simp [Fo.len, Fo.enc]; omega
  | list i r _ ih => have := hd_pos 192 i.enc.length; simp [Fo.len, Fo.enc]; omega
/-- What a call of ref hands back. -/
def RefR (x : It) (w : World) (e : Ending) (w' : World) : Prop :=
  ∃ v, e = .returned v ∧ ItV (fun k => w.heap.size ≤ k ∧ k < w'.heap.size) x v w' ∧ Below w.heap.size w w'
def RefC (x : It) : Prop := x.enc.length ≤ 100000 → ∀ (S : Nat → Prop) (v : Value) (w : World), (∀ k, S k → k < w.heap.size) → ItV S x v w → Calls Try.prog 14 #[v] w (RefR x w)
/-- What is known at the head of each round. -/
structure RefS (w : World) (b : Bool) (t : ByteArray) (a : Option Addr) (n c : Nat) (S : Nat → Prop) (f : Fo) (k : Nat) (W : World) : Prop where
  below : Below w.heap.size w W
  box : W.heap[w.heap.size]? = some (.cells #[.bool b, .string t, .slice a n c] 27 (0, 0))
  res : W.heap[w.heap.size + 1]? = some (.cells #[.bool false, .string ⟨#[]⟩, .slice none 0 0] 35 (0, 0))
  it : ∃ (done rest : Fo) (a2 : Option Addr) (n2 c2 : Nat), W.heap[w.heap.size + 1 + 1]? = some (.cells #[.bool b, .string t, .slice a2 n2 c2] 35 (0, 0)) ∧ OwnR (w.heap.size + 3) done (.slice a2 n2 c2) W ∧ done.len = k ∧ f = done.app rest ∧
    rest.All RefC ∧ rest.enc.length ≤ 100000 ∧ (rest = .nil ∨ ∃ g o, a = some ⟨g, o, none⟩ ∧ S g ∧ rest.At S g (o + 3 * k) w) ∧ (done = .nil → (.slice a2 n2 c2 : Value) = .slice none 0 0)
set_option maxRecDepth 100000 in
set_option maxHeartbeats 8000000 in
theorem ref_go {b : Bool} {t : ByteArray} {a : Option Addr} {n c : Nat} {f : Fo} {S : Nat → Prop} (w : World) (hn : f.len = n) (hlen : f.enc.length ≤ 100000) (hA : f.All RefC) (hS : ∀ k, S k → k < w.heap.size)
    (hAt : f = .nil ∨ ∃ g o, a = some ⟨g, o, none⟩ ∧ S g ∧ f.At S g o w) :
    Calls Try.prog 14 #[.agg #[.bool b, .string t, .slice a n c]] w fun e w' =>
      ∃ u, e = .returned (.agg #[.bool b, .string t, u]) ∧ SlF (fun k => w.heap.size ≤ k ∧ k < w'.heap.size) f u w' ∧ (f = .nil → u = .slice none 0 0) ∧ Below w.heap.size w w' := by
  have hn5 : n ≤ 100000 := by have := f.len_enc; omega
  have HO := Lib.hid (show RefS w b t a n c S f 0 (((w.alloc (.cells #[.bool b, .string t, .slice a n c] 27)).alloc (.cells #[.bool false, .string ⟨#[]⟩, .slice none 0 0] 35)).alloc (.cells #[.bool b, .string t, .slice none 0 0] 35)) from
    ⟨((bel_al w _).trans ((bel_al _ _).mono (by simp))).trans ((bel_al _ _).mono (by simp; omega)), by rw [Below.heap_alloc _ _ _ (by simp; omega), Below.heap_alloc _ _ _ (by simp)]; exact heap_alloc_new _ _,
      by rw [Below.heap_alloc _ _ _ (by simp)]; have := heap_alloc_new (w.alloc (.cells #[.bool b, .string t, .slice a n c] 27)) (.cells #[.bool false, .string ⟨#[]⟩, .slice none 0 0] 35); rwa [alloc_size] at this,
      .nil, f, none, 0, 0, by have := heap_alloc_new ((w.alloc (.cells #[.bool b, .string t, .slice a n c] 27)).alloc (.cells #[.bool false, .string ⟨#[]⟩, .slice none 0 0] 35)) (.cells #[.bool b, .string t, .slice none 0 0] 35); rwa [alloc_size, alloc_size] at this,
      OwnR.nil _ _, rfl, rfl, hA, hlen, by simpa using hAt, fun _ => rfl⟩)
  have HN := Lib.hid (And.intro hn hS)
  clear hn hlen hA hS hAt
  go_enter Try.func14, Try.ntmps14
  go_wp2_with fail
  go_loopw [4] (fun i wr => ∃ k : Nat, i = .int .i64 k ∧ RefS w b t a n c S f k wr) (fun i _ => n - (intOf i).toNat)
  case atStart => exact ⟨0, rfl, HO.out⟩
  case round =>
    clear HO
    obtain ⟨k, rfl, hR⟩ := hrel
    obtain ⟨done, rest, a2, n2, c2, hO1, hO2, hO3, hO4, hO5, hO6, hO7, hO8⟩ := hR.it
    obtain ⟨⟨b0, b1, b2⟩, _⟩ := cells3 hR.box
    obtain ⟨⟨y0, y1, y2⟩, z0, z1, z2⟩ := cells3 hO1
    rcases rest.cases_it with rfl | ⟨x, r, rfl⟩
    · have hkn : ¬ (k : Int) < (n : Int) := by
        have := HN.out.1
        rw [hO4, Fo.len_app, hO3, show Fo.len .nil = 0 from rfl] at this
        omega
      obtain ⟨⟨x0, x1, x2⟩, r0, r1, r2⟩ := cells3 hR.res
      have hset := heap_set3 hR.res (.bool b) (.string t) (.slice a2 n2 c2)
      have hbs := below_set3 hR.below (show w.heap.size ≤ w.heap.size + 1 by omega) (.bool b) (.string t) (.slice a2 n2 c2)
      obtain ⟨⟨p0, p1, p2⟩, _⟩ := cells3 hset
      rw [Fo.app_nil] at hO4
      subst hO4
      have HF := Lib.hid (show SlF (fun i => w.heap.size ≤ i ∧ i < (((wr.setCell ⟨w.heap.size + 1, 0, none⟩ (.bool b)).setCell ⟨w.heap.size + 1, 1, none⟩ (.string t)).setCell ⟨w.heap.size + 1, 2, none⟩ (.slice a2 n2 c2)).heap.size) f (.slice a2 n2 c2) (((wr.setCell ⟨w.heap.size + 1, 0, none⟩ (.bool b)).setCell ⟨w.heap.size + 1, 1, none⟩ (.string t)).setCell ⟨w.heap.size + 1, 2, none⟩ (.slice a2 n2 c2)) from by
        refine (hO2.sl.kept (fun i hi => ?_)).mono (fun i hi => ⟨by omega, by simp [World.setCell]; omega⟩)
        rw [heap_setCell_other _ _ _ _ (by simp; omega), heap_setCell_other _ _ _ _ (by simp; omega), heap_setCell_other _ _ _ _ (by simp; omega)])
      have HE := Lib.hid (And.intro hO8 hbs)
      clear hR hO1 hO2 hO3 hO5 hO6 hO7 hO8 hset hbs
      go_wp2_with fail
      exact bodyPost_ret (v := .agg #[.bool b, .string t, .slice a2 n2 c2]) (by simp [results, Try.results14, go_sem, p0, p1, p2]) rfl ⟨_, rfl, HF.out, HE.out.1, HE.out.2⟩
    · have hkl : k < n := by
        have := HN.out.1
        rw [hO4, Fo.len_app, hO3, fo_len] at this
        omega
      obtain ⟨g, o, rfl, hg, hat⟩ : ∃ g o, a = some ⟨g, o, none⟩ ∧ S g ∧ (x.fo r).At S g (o + 3 * k) w := by
        rcases hO7 with h | h
        · cases x <;> cases h
        · exact h
      obtain ⟨e0, e1, e2, e3, e4, f0, f1, f2, hx, hr⟩ := At_cons hat
      rw [show o + 3 * k = o + k * 3 by omega] at f0 f1 f2
      obtain ⟨hP, hrA⟩ := Fo.all_cons hO5
      rw [fo_enc, List.length_append] at hO6
      have hx' := fun (V : World) (hV : Below w.heap.size w V) => hx.kept (W' := V) (fun i hi => hV.block i (HN.out.2 i hi))
      have HC := Lib.hid (fun (V : World) (hV : Below w.heap.size w V) => hP (by omega) S _ V (fun i hi => Nat.lt_of_lt_of_le (HN.out.2 i hi) hV.size) (hx' V hV))
      have hk5 : k ≤ 100000 := by omega
      have hki : (k : Int) < (n : Int) := by omega
      have hki0 : (0 : Int) ≤ (k : Int) ∧ (k : Int) < (n : Int) := by omega
      have hoff : o + (k : Int).toNat * 3 = o + 3 * k := by omega
      have hw : IntKind.i64.wrap ((k : Int) + 1) = (k : Int) + 1 := IntWalk.i64_in _ (by omega)
      have HS := Lib.hid (fun (V : World) (hV : Below w.heap.size w V ∧ V.heap[w.heap.size]? = some (.cells #[.bool b, .string t, .slice (some ⟨g, o, none⟩) n c] 27 (0, 0)) ∧ V.heap[w.heap.size + 1 + 1]? = some (.cells #[.bool b, .string t, .slice a2 n2 c2] 35 (0, 0))) =>
        (show (V.cell? ⟨w.heap.size, 0, none⟩ = some (.bool b) ∧ V.cell? ⟨w.heap.size, 1, none⟩ = some (.string t) ∧ V.cell? ⟨w.heap.size, 2, none⟩ = some (.slice (some ⟨g, o, none⟩) n c)) ∧
          V.cell? ⟨w.heap.size + 1 + 1, 2, none⟩ = some (.slice a2 n2 c2) ∧ V.cell? ⟨g, o + k * 3, none⟩ = some (.bool e0) ∧ V.cell? ⟨g, o + k * 3 + 1, none⟩ = some (.string e1) ∧ V.cell? ⟨g, o + k * 3 + 2, none⟩ = some (.slice e2 e3 e4) from
        ⟨(cells3 hV.2.1).1, (cells3 hV.2.2).1.2.2, (World.cell?_of_block (hV.1.block g (HN.out.2 g hg))).trans f0, (World.cell?_of_block (hV.1.block g (HN.out.2 g hg))).trans f1, (World.cell?_of_block (hV.1.block g (HN.out.2 g hg))).trans f2⟩))
      have HR := Lib.hid hR
      have HQ := Lib.hid (And.intro hO1 (And.intro hO2 (And.intro hO3 (And.intro hO4 (And.intro hrA (And.intro hO6 (And.intro hr hg)))))))
      clear hR hO1 hO2 hO3 hO4 hO5 hO6 hO7 hO8 hP hrA hx hx' hr hat f0 f1 f2 y0 y1 y2 z0 z1 z2
      go_wp2_with fail
      have H0 : Below w.heap.size w wr.drew ∧ wr.drew.heap[w.heap.size]? = some (.cells #[.bool b, .string t, .slice (some ⟨g, o, none⟩) n c] 27 (0, 0)) ∧ wr.drew.heap[w.heap.size + 1 + 1]? = some (.cells #[.bool b, .string t, .slice a2 n2 c2] 35 (0, 0)) := ⟨HR.out.below.drew, HR.out.box, HQ.out.1⟩
      refine Drawn.start (fun V => Below w.heap.size w V ∧ V.heap[w.heap.size]? = some (.cells #[.bool b, .string t, .slice (some ⟨g, o, none⟩) n c] 27 (0, 0)) ∧ V.heap[w.heap.size + 1 + 1]? = some (.cells #[.bool b, .string t, .slice a2 n2 c2] 35 (0, 0))) (fun i => i == 11) (by kernel_rfl) ?_
      refine Drawn.take 0 (some 17) (v := ?_) rfl rfl (by kernel_rfl) (by kernel_rfl) (by kernel_rfl) (by kernel_rfl) (by kernel_rfl) rfl (fun _ _ _ h => h) (Or.inl ⟨rfl, ?_⟩) H0 ?_
      rotate_left
      · intro W hW; have hW := HS.out W hW; go_simp; try with_reducible rfl
      simp only [put_list, List.set]
      refine Drawn.take 1 (some 18) (v := ?_) rfl rfl (by kernel_rfl) (by kernel_rfl) (by kernel_rfl) (by kernel_rfl) (by kernel_rfl) rfl (fun _ _ _ h => h) (Or.inl ⟨rfl, ?_⟩) H0 ?_
      rotate_left
      · intro W hW; have hW := HS.out W hW; go_simp; try with_reducible rfl
      simp only [put_list, List.set]
      refine Drawn.take 2 (some 19) (v := ?_) rfl rfl (by kernel_rfl) (by kernel_rfl) (by kernel_rfl) (by kernel_rfl) (by kernel_rfl) rfl (fun _ _ _ h => h) (Or.inl ⟨rfl, ?_⟩) H0 ?_
      rotate_left
      · intro W hW; have hW := HS.out W hW; go_simp; try with_reducible rfl
      simp only [put_list, List.set]
      refine Drawn.take 3 (some 20) (v := ?_) rfl rfl (by kernel_rfl) (by kernel_rfl) (by kernel_rfl) (by kernel_rfl) (by kernel_rfl) rfl (fun _ _ _ h => h) (Or.inl ⟨rfl, ?_⟩) H0 ?_
      rotate_left
      · intro W hW; have hW := HS.out W hW; go_simp; try with_reducible rfl
      simp only [put_list, List.set]
      refine Drawn.take 4 (some 21) (v := ?_) rfl rfl (by kernel_rfl) (by kernel_rfl) (by kernel_rfl) (by kernel_rfl) (by kernel_rfl) rfl (fun _ _ _ h => h) (Or.inl ⟨rfl, ?_⟩) H0 ?_
      rotate_left
      · intro W hW; have hW := HS.out W hW; go_simp; try with_reducible rfl
      simp only [put_list, List.set]
      refine Drawn.take 5 (some 22) (v := ?_) rfl rfl (by kernel_rfl) (by kernel_rfl) (by kernel_rfl) (by kernel_rfl) (by kernel_rfl) rfl (fun _ _ _ h => h) (Or.inl ⟨rfl, ?_⟩) H0 ?_
      rotate_left
      · intro W hW; have hW := HS.out W hW; go_simp; try with_reducible rfl
      simp only [put_list, List.set]
      refine Drawn.take 6 (some 23) (v := ?_) rfl rfl (by kernel_rfl) (by kernel_rfl) (by kernel_rfl) (by kernel_rfl) (by kernel_rfl) rfl (fun _ _ _ h => h) (Or.inl ⟨rfl, ?_⟩) H0 ?_
      rotate_left
      · intro W hW; have hW := HS.out W hW; go_simp; try with_reducible rfl
      simp only [put_list, List.set]
      refine Drawn.only 7 (by kernel_rfl) rfl rfl (fun K hK => ?_)
      go_simp
      refine (HC.out _ H0.1).mono ?_
      rintro e w9 ⟨v9, rfl, hv9, hb9⟩
      have hlb := lt_of H0.2.1
      have hlo := lt_of H0.2.2
      have hob : ∀ i, i < wr.heap.size → w9.heap[i]? = wr.heap[i]? := fun i hi => hb9.block i hi
      have hos : wr.heap.size ≤ w9.heap.size := hb9.size
      have H1 : Below w.heap.size w w9 ∧ w9.heap[w.heap.size]? = some (.cells #[.bool b, .string t, .slice (some ⟨g, o, none⟩) n c] 27 (0, 0)) ∧ w9.heap[w.heap.size + 1 + 1]? = some (.cells #[.bool b, .string t, .slice a2 n2 c2] 35 (0, 0)) :=
        ⟨H0.1.trans (hb9.mono H0.1.size), (hb9.block _ hlb).trans H0.2.1, (hb9.block _ hlo).trans H0.2.2⟩
      refine hK _ _ (fun _ _ => H1) ?_
      clear hK K HC H0
      obtain ⟨b6, t6, i6, n6, c6, hf⟩ := hv9.form
      obtain ⟨b3, t3, l3, hf2, hone, hcel⟩ := hv9.cel
      rw [hf] at hf2
      obtain ⟨rfl, rfl, rfl⟩ : b6 = b3 ∧ t6 = t3 ∧ .slice i6 n6 c6 = l3 := by simpa using hf2
      subst hf
      clear hf2 hv9
      try simp only [put_list, List.set]
      refine Drawn.only 8 (by kernel_rfl) rfl rfl (fun K hK => ?_)
      go_simp
      have hl1 := lt_of H1.2.1
      have hl2 := lt_of H1.2.2
      have H2 : Below w.heap.size w (w9.alloc (.cells #[.bool b6, .string t6, .slice i6 n6 c6] 35)) ∧ (w9.alloc (.cells #[.bool b6, .string t6, .slice i6 n6 c6] 35)).heap[w.heap.size]? = some (.cells #[.bool b, .string t, .slice (some ⟨g, o, none⟩) n c] 27 (0, 0)) ∧ (w9.alloc (.cells #[.bool b6, .string t6, .slice i6 n6 c6] 35)).heap[w.heap.size + 1 + 1]? = some (.cells #[.bool b, .string t, .slice a2 n2 c2] 35 (0, 0)) :=
        ⟨H1.1.alloc H1.1.size _, (Below.heap_alloc _ _ _ hl1).trans H1.2.1, (Below.heap_alloc _ _ _ hl2).trans H1.2.2⟩
      refine hK _ _ (fun _ _ => H2) ?_
      clear hK K H1
      try simp only [put_list, List.set]
      have hal : ∀ i, i < w9.heap.size → (w9.alloc (.cells #[.bool b6, .string t6, .slice i6 n6 c6] 35)).heap[i]? = w9.heap[i]? := fun i hi => Below.heap_alloc _ _ _ hi
      have hsa := alloc_size w9 (.cells #[.bool b6, .string t6, .slice i6 n6 c6] 35)
      have hlw : w.heap.size + 3 ≤ wr.heap.size := by have := lt_of HQ.out.1; omega
      have hown : OwnR (w.heap.size + 3) done (.slice a2 n2 c2) (w9.alloc (.cells #[.bool b6, .string t6, .slice i6 n6 c6] 35)) := HQ.out.2.1.kept (fun i _ hi => (hal i (by omega)).trans (hob i hi)) (by omega)
      have hSS : ∀ i, (wr.heap.size ≤ i ∧ i < w9.heap.size) → w.heap.size + 3 ≤ i ∧ i < (w9.alloc (.cells #[.bool b6, .string t6, .slice i6 n6 c6] 35)).heap.size ∧ (Value.slice a2 n2 c2).ownBlock ≠ some i := fun i hi =>
        ⟨by omega, by omega, fun e => by have := (HQ.out.2.1.blk i e).2; omega⟩
      have hcel2 := hcel.kept (W' := (w9.alloc (.cells #[.bool b6, .string t6, .slice i6 n6 c6] 35))) (fun i hi => hal i hi.2) _ _
      have hzz := heap_alloc_new w9 (.cells #[.bool b6, .string t6, .slice i6 n6 c6] 35)
      generalize w9.alloc (.cells #[.bool b6, .string t6, .slice i6 n6 c6] 35) = WA at *
      refine Drawn.only 9 (by kernel_rfl) rfl rfl (fun K hK => ?_)
      refine wp_append_itemR _ _ (by rfl) (w.heap.size + 3) (.slice a2 n2 c2) done x b6 t6 (.slice i6 n6 c6) (fun i => wr.heap.size ≤ i ∧ i < w9.heap.size) (by rfl) hown hSS hone hcel2 w9.heap.size (by rfl) hzz (by omega) (by have := HQ.out.2.2.1; omega) ?_
      intro v3 W3 hown3 hgr3 _
      obtain ⟨av, nv, cv, rfl⟩ := hown3.sl.form
      have hbk : ∀ i, i < w.heap.size + 3 → W3.heap[i]? = WA.heap[i]? := fun i hi => hgr3.block i (by omega) (fun e => by have := (hown.blk i e.symm).1; omega)
      have H3 : Below w.heap.size w W3 ∧ W3.heap[w.heap.size]? = some (.cells #[.bool b, .string t, .slice (some ⟨g, o, none⟩) n c] 27 (0, 0)) ∧ W3.heap[w.heap.size + 1 + 1]? = some (.cells #[.bool b, .string t, .slice a2 n2 c2] 35 (0, 0)) :=
        ⟨H2.1.trans (Only.below (Only.grown (may := fun _ => False) (B := w.heap.size) hgr3 (fun i e => by have := (hown.blk i e).1; omega) (by omega)) (Nat.le_refl _) (fun _ _ h => h)), (hbk _ (by omega)).trans H2.2.1, (hbk _ (by omega)).trans H2.2.2⟩
      have hres3 : W3.heap[w.heap.size + 1]? = some (.cells #[.bool false, .string ⟨#[]⟩, .slice none 0 0] 35 (0, 0)) := (hbk _ (by omega)).trans ((hal _ (by omega)).trans ((hob _ (by omega)).trans HR.out.res))
      refine hK _ _ (fun _ _ => H3) ?_
      have HF := Lib.hid (And.intro H3 (And.intro hres3 hown3))
      have g2 := (cells3 H3.2.2).1.2.2
      have q2 := (cells3 H3.2.2).2.2.2
      clear hK K hown hSS hone hcel hcel2 hzz hgr3 hbk hal hsa hob hos H2 HS hown3 hres3 hb9 hlw hl1 hl2 hlb hlo
      try simp only [put_list, List.set]
      refine Drawn.only 10 (by kernel_rfl) rfl rfl (fun K hK => ?_)
      go_simp
      refine hK _ _ (fun _ _ => HF.out.1) ?_
      clear hK K
      try simp only [put_list, List.set]
      refine Drawn.only 11 (by kernel_rfl) rfl rfl (fun K hK => ?_)
      go_simp
      refine hK _ _ (fun h _ => absurd h (by decide)) ?_
      clear hK K H3
      refine Drawn.done (by kernel_rfl) ?_ _
      have hout := (heap_setCell_same _ _ 2 _ _ (.slice av nv cv) HF.out.1.2.2)
      have HE := Lib.hid (show RefS w b t (some ⟨g, o, none⟩) n c S f (k + 1) (W3.setCell ⟨w.heap.size + 1 + 1, 2, none⟩ (.slice av nv cv)) from
        ⟨HF.out.1.1.setCell (by simp; omega) _, (heap_setCell_other _ _ _ _ (by simp; omega)).trans HF.out.1.2.1, (heap_setCell_other _ _ _ _ (by simp)).trans HF.out.2.1,
          done.app (x.fo .nil), r, av, nv, cv, by simpa using hout, HF.out.2.2.kept (fun i hi _ => heap_setCell_other _ _ _ _ (by simp; omega)) (by simp [World.setCell]),
          by rw [Fo.len_app, show (x.fo .nil).len = 1 by cases x <;> rfl, HQ.out.2.2.1], by rw [HQ.out.2.2.2.1, fo_app x r, Fo.app_assoc], HQ.out.2.2.2.2.1, by have := HQ.out.2.2.2.2.2.1; omega,
          Or.inr ⟨g, o, rfl, hg, by rw [show o + 3 * (k + 1) = o + 3 * k + 3 by omega]; exact HQ.out.2.2.2.2.2.2.1⟩, fun e => by cases done <;> cases x <;> simp [Fo.app, It.fo] at e⟩)
      clear hout HF HQ HR g2 q2
      go_wp2_with fail
      exact ⟨⟨k + 1, by go_num, HE.out⟩, by simp [intOf]; omega⟩
/-- What ref does. -/
theorem ref_c (x : It) : RefC x := by
  refine It.all_of (P := RefC) (fun s _ S v w hS hv => ?_) (fun i hi hl S v w hS hv => ?_) x
  · obtain rfl : v = .agg #[.bool false, .string (str s), .slice none 0 0] := hv
    refine (ref_go (f := .nil) (S := S) w rfl (by simp [Fo.enc]) trivial hS (Or.inl rfl)).mono ?_
    rintro e w' ⟨u, rfl, _, hu, hb⟩
    rw [hu rfl]
    exact ⟨_, rfl, rfl, hb⟩
  · obtain ⟨u, rfl, hu⟩ := hv
    have hil : i.enc.length ≤ 100000 := by simp [It.enc] at hl; omega
    rcases hu with ⟨rfl, rfl⟩ | ⟨g, o, c, rfl, hg, hc, ha⟩
    · refine (ref_go (f := .nil) (S := S) w rfl (by simp [Fo.enc]) trivial hS (Or.inl rfl)).mono ?_
      rintro e w' ⟨u, rfl, hf, _, hb⟩
      exact ⟨_, rfl, ⟨_, rfl, hf⟩, hb⟩
    · refine (ref_go (f := i) (S := S) w rfl hil hi hS (Or.inr ⟨g, o, rfl, hg, ha⟩)).mono ?_
      rintro e w' ⟨u, rfl, hf, _, hb⟩
      exact ⟨_, rfl, ⟨_, rfl, hf⟩, hb⟩
end Go.Proofs.Ytgaaalacoeainaa
