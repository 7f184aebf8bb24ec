/- Encode. -/
import Derived.Test.YtgaaalacoeainaaLr
namespace Go.Proofs.Ytgaaalacoeainaa
open Go.RowKit

theorem Chg.toBelow {F F' : Nat → Prop} {B : Nat} {a b : World} (h : Chg F F' a b) (hB : B ≤ a.heap.size) (hf : ∀ k, F k → B ≤ k) : Below B a b :=
  ⟨h.os, h.tape, h.output, h.size, fun k hk => h.block k (by omega) (fun hh => by have := hf k hh; omega)⟩
set_option maxRecDepth 100000 in
set_option maxHeartbeats 4000000 in
theorem encode_c (S : Nat → Prop) (x : It) (v : Value) (w : World) (hS : ∀ k, S k → k < w.heap.size) (hv : ItV S x v w) (hn : x.evs.length < 800000) (hl : x.enc.length ≤ 800000000) :
    Calls Try.prog 15 #[v] w fun e w' => e = .returned (.string (str x.enc)) ∧ Below w.heap.size w w' := by
  obtain ⟨xb, xt, xa, xn, xc, rfl⟩ := hv.form
  have hm : ∀ (fn : Fn) (first cap : Array Value) (w : World), (Instr.makeFunc fn first cap).run Try.prog w = .ok (.func fn first cap) w := fun _ _ _ _ => rfl
  obtain ⟨W1, hW1⟩ : ∃ W1, W1 = (w.alloc (.cells #[.bool xb, .string xt, .slice xa xn xc] 27)).alloc (.cells #[.slice none 0 0, .slice none 0 0] 61) := ⟨_, rfl⟩
  have hold : ∀ k, k < w.heap.size → W1.heap[k]? = w.heap[k]? := fun k hk => by rw [hW1, heap_alloc_get, if_neg (by simp; omega), heap_alloc_get, if_neg (by omega)]
  have hsz : W1.heap.size = w.heap.size + 2 := by rw [hW1]; simp
  have hrow : W1.heap[w.heap.size + 1]? = some (.cells #[.slice none 0 0, .slice none 0 0] 61 (0, 0)) := by rw [hW1]; exact heap_alloc2_new _ _ _
  have hbox : W1.heap[w.heap.size]? = some (.cells #[.bool xb, .string xt, .slice xa xn xc] 27 (0, 0)) := by rw [hW1]; exact heap_alloc2_old _ _ _
  have hb1 : Below w.heap.size w W1 := ⟨by rw [hW1]; rfl, by rw [hW1]; rfl, by rw [hW1]; rfl, by omega, hold⟩
  have hst : SuS (w.heap.size + 1) (w.heap.size + 2) ([], []) W1 := ⟨by omega, _, _, hrow, World.ownsRow_nil _ _ _ _, World.ownsRow_nil _ _ _ _, Or.inl rfl⟩
  have hf1 : ∀ k, SuF (w.heap.size + 1) W1 k → w.heap.size + 1 ≤ k := fun k hk => by rcases hst.ftge k hk with h | h <;> omega
  have HBg := Lib.hid (show Calls Try.prog 25 _ W1 fun e W' => e = .returned (.tuple #[]) ∧ SuS (w.heap.size + 1) (w.heap.size + 2) ([0], [0]) W' ∧ Below (w.heap.size + 1) W1 W' from (sbegin_c hst (by simp) (by simp) (by omega)).mono fun e W' ⟨h1, h2, h3⟩ => ⟨h1, h2, h3.toBelow (by omega) hf1⟩)
  have hrun := su_run (x.fo .nil) [0] [] 0 (by simp) (by rw [← x.enc_fo]; simp; omega) (by rw [← x.evs_fo]; simp; omega) (by rw [← x.evs_fo]; simp; omega)
  rw [← x.evs_fo, ← x.enc_fo] at hrun
  have hz : addAt [0] 0 x.enc.length ++ (x.fo .nil).szs = x.enc.length :: (x.fo .nil).szs := by simp [addAt]
  rw [hz] at hrun
  have HWa := Lib.hid (fun (V : World) (h1 : SuS (w.heap.size + 1) (w.heap.size + 2) ([0], [0]) V) (h2 : Below (w.heap.size + 1) W1 V) => show Calls Try.prog 26 #[.agg #[.bool xb, .string xt, .slice xa xn xc], .func (.func 25) #[.pointer (some ⟨w.heap.size + 1, 0, none⟩)] #[], .func (.func 27) #[.pointer (some ⟨w.heap.size + 1, 0, none⟩)] #[], .func (.func 28) #[.pointer (some ⟨w.heap.size + 1, 0, none⟩)] #[]] V fun e W' => e = .returned (.tuple #[]) ∧ SuS (w.heap.size + 1) (w.heap.size + 2) (x.enc.length :: (x.fo .nil).szs, [0]) W' ∧ Below (w.heap.size + 1) V W' from by
    have hsV := h2.size
    have hf : ∀ k, SuF (w.heap.size + 1) V k → w.heap.size + 1 ≤ k := fun k hk => by rcases h1.ftge k hk with h | h <;> omega
    refine (walk_c (K := suK (w.heap.size + 1) (w.heap.size + 2)) (S := S) x _ V ([0], [0]) (fun k hk => ⟨by have := hS k hk; omega, fun hh => by have := hS k hk; have := hf k hh; omega⟩) (hv.kept fun k hk => (h2.block k (by have := hS k hk; omega)).trans (hold k (hS k hk))) ⟨h1, by omega⟩ hrun.1 (by omega)).mono fun e W' ⟨g1, g2, g3⟩ => ⟨g1, ?_, g3.toBelow (by omega) hf⟩
    have e : runE (suK (w.heap.size + 1) (w.heap.size + 2)).step ([0], [0]) x.evs = (x.enc.length :: (x.fo .nil).szs, [0]) := hrun.2
    rw [e] at g2
    exact g2.1)
  have HB1 := Lib.hid (And.intro hb1 (And.intro hbox (And.intro hsz hW1)))
  have HH := Lib.hid (And.intro hv (And.intro hS (And.intro hn hl)))
  clear hold hsz hrow hbox hb1 hst hf1 hrun hz hv hS hn hl
  go_enter Try.func15, Try.ntmps15
  go_wp2_with fail
  rw [← HB1.out.2.2.2]
  refine HBg.out.mono ?_
  rintro e W2 ⟨rfl, h2, h3⟩
  have hbx2 := (h3.block _ (by omega)).trans HB1.out.2.1
  obtain ⟨⟨c0, c1, c2⟩, _⟩ := cells3 hbx2
  have H2 := Lib.hid (And.intro h2 (And.intro h3 hbx2))
  clear h2 h3 hbx2
  go_wp2_with fail
  refine (HWa.out _ H2.out.1 H2.out.2.1).mono ?_
  rintro e W3 ⟨rfl, h2, h3⟩
  have hbx3 := (h3.block _ (by omega)).trans H2.out.2.2
  clear c0 c1 c2
  obtain ⟨v1, v2, r1, r2, r3, r4⟩ := h2.row
  obtain ⟨k, hk⟩ : ∃ k, (x.fo .nil).szs.length = k := ⟨_, rfl⟩
  have r2' : W3.ownsRow (w.heap.size + 2) 3 1 v1 (k + 1) (ints (x.enc.length :: (x.fo .nil).szs)) := by rw [← hk]; exact r2
  obtain ⟨g, cap, rfl, hg1, hg2, hg3⟩ := own_form r2'
  have d0 : W3.cell? ⟨w.heap.size + 1, 0, none⟩ = some (.slice (some ⟨g, 0, none⟩) (k + 1) cap) := cell_of r1 0
  have d1 : W3.cell? ⟨g, 0, none⟩ = some (.int .i64 (x.enc.length : Nat)) := own_cell r2' rfl 0 _ (by simp [ints])
  have d2 : ∀ j (h : j < (x.fo .nil).szs.length), W3.cell? ⟨g, 1 + j, none⟩ = some (.int .i64 (((x.fo .nil).szs[j]'h : Nat) : Int)) := fun j hj => by
    rw [Nat.add_comm]
    exact own_cell r2' rfl (j + 1) _ (by simp [ints, hj])
  have hw3 : w.heap.size + 2 ≤ W3.heap.size := by have := H2.out.2.1.size; have := HB1.out.2.2.1; have := h3.size; omega
  have hsl := slice_one_int g 0 k cap
  obtain ⟨o2, ho2⟩ : ∃ o2, (if cap = 1 then 0 else 0 + 1) = o2 := ⟨_, rfl⟩
  rw [ho2] at hsl
  have hbw := HB1.out.1.trans ((H2.out.2.1.trans (h3.mono (B' := w.heap.size + 1) (by omega))).mono (by omega))
  have H3 := Lib.hid (And.intro hbw (And.intro hbx3 (And.intro hw3 (And.intro hk (And.intro hg1 (And.intro hg2 (And.intro hg3 (And.intro ho2 d2))))))))
  obtain ⟨W4, hW4⟩ : ∃ W4, W4 = W3.alloc (.cells #[.pointer none, .slice none 0 0, .slice (some ⟨g, o2, none⟩) k (cap - 1)] 68) := ⟨_, rfl⟩
  have hold : ∀ j, j < W3.heap.size → W4.heap[j]? = W3.heap[j]? := fun j hj => by rw [hW4]; exact Below.heap_alloc _ _ _ hj
  have e0 := (World.cell?_of_block (a := ⟨w.heap.size + 1, 0, none⟩) (hold (w.heap.size + 1) (by omega))).trans d0
  have e1 := (World.cell?_of_block (a := ⟨g, 0, none⟩) (hold g hg2)).trans d1
  have hnew : W4.heap[W3.heap.size]? = some (.cells #[.pointer none, .slice none 0 0, .slice (some ⟨g, o2, none⟩) k (cap - 1)] 68 (0, 0)) := by rw [hW4]; exact heap_alloc_new _ _
  have hs4 : W4.heap.size = W3.heap.size + 1 := by rw [hW4]; simp
  have HGr := Lib.hid (bgrow_c (Or.inl rfl) W3.heap.size (W3.heap.size + 1) x.enc.length _ W4 hnew (by omega) (by omega) (by have := HH.out.2.2.2; omega) (List.length_pos_iff.2 x.enc_ne))
  have hb4 : Below W3.heap.size W3 W4 := ⟨by rw [hW4]; rfl, by rw [hW4]; rfl, by rw [hW4]; rfl, by omega, hold⟩
  have H4 := Lib.hid (And.intro hb4 (And.intro hs4 hW4))
  have hi0 : (1 : Int) ≤ (k : Int) + 1 := by omega
  have hi1 : (0 : Int) < (k : Int) + 1 := by omega
  rw [hW4] at e0 e1
  clear h2 h3 hbx3 r1 r2 r2' r3 r4 hk hg1 hg2 hg3 d1 d2 hw3 ho2 hbw hold hnew hs4 hb4 hW4 HBg HWa
  go_wp2_with fail
  rw [← H4.out.2.2]
  refine HGr.out.mono ?_
  rintro e W5 ⟨rfl, h5, h6⟩
  obtain ⟨p1, p2, p3, p4, p5, p6, p7, p8, p9⟩ := H3.out
  obtain ⟨q1, q2, _⟩ := H4.out
  have hk5 : ∀ j, j < W3.heap.size → W5.heap[j]? = W3.heap[j]? := fun j hj => (h6.block j (by omega) (by omega)).trans (q1.block j hj)
  have hs5 := h6.size
  have hb5 : Below w.heap.size w W5 := p1.trans ⟨h6.os.trans q1.os, h6.tape.trans q1.tape, h6.output.trans q1.output, by omega, fun j hj => hk5 j (by omega)⟩
  have hbx5 := (hk5 _ (by omega)).trans p2
  obtain ⟨⟨c0, c1, c2⟩, _⟩ := cells3 hbx5
  have hwr : WrS W3.heap.size (W3.heap.size + 1) g ([], (x.fo .nil).szs ++ []) W5 := by
    rw [List.append_nil]
    refine ⟨⟨by omega, by omega, by omega⟩, o2, cap - 1, by rw [p4]; exact h5, by show (x.fo .nil).szs.length ≤ _; omega, fun j hj => ?_⟩
    have hj' : j < (x.fo .nil).szs.length := hj
    rw [if_neg (by omega)] at p8
    have := (World.cell?_of_block (a := ⟨g, 1 + j, none⟩) (hk5 g p6)).trans (p9 j hj')
    rw [← p8]
    exact this
  have hrun := wr_run (x.fo .nil) [] [] (by rw [← x.enc_fo]; have := HH.out.2.2.2; simp; omega)
  rw [← x.evs_fo, ← x.enc_fo] at hrun
  have HW2 := Lib.hid (show Calls Try.prog 26 #[.agg #[.bool xb, .string xt, .slice xa xn xc], .func (.func 30) #[.pointer (some ⟨W3.heap.size, 0, none⟩)] #[], .func (.func 31) #[.pointer (some ⟨W3.heap.size, 0, none⟩)] #[], .func (.func 32) #[.pointer (some ⟨W3.heap.size, 0, none⟩)] #[]] W5 fun e W' => e = .returned (.tuple #[]) ∧ (∃ y, BdS 68 W3.heap.size (W3.heap.size + 1) x.enc y W') ∧ Below w.heap.size w W' from by
    have hfk : ∀ j, WrF W3.heap.size g W5 j → w.heap.size ≤ j := fun j hj => by
      rcases hj with hj | hj
      · have := (BdS.ftlt h5 j hj).2; omega
      · omega
    have hS := HH.out.2.1
    refine (walk_c (K := wrK W3.heap.size (W3.heap.size + 1) g) (S := S) x _ W5 ([], (x.fo .nil).szs ++ []) (fun j hj => ⟨by have := hS j hj; omega, fun hh => by have := hS j hj; have := hfk j hh; omega⟩) (HH.out.1.kept fun j hj => hb5.block j (hS j hj)) ⟨hwr, by omega⟩ hrun.1 (by have := HH.out.2.2.1; omega)).mono fun e W' ⟨g1, g2, g3⟩ => ⟨g1, ?_, hb5.trans (g3.toBelow (by omega) hfk)⟩
    have e : runE (wrK W3.heap.size (W3.heap.size + 1) g).step ([], (x.fo .nil).szs ++ []) x.evs = (x.enc, []) := hrun.2.trans (by simp)
    rw [e] at g2
    obtain ⟨o, c, g4, _⟩ := g2.1.bd
    exact ⟨_, g4⟩)
  have HL := Lib.hid (show x.enc.length ≤ 900000000 by have := HH.out.2.2.2; omega)
  have HX := Lib.hid (show w.heap.size ≤ W3.heap.size by omega)
  clear p1 p2 p3 p4 p5 p6 p7 p8 p9 q1 q2 hk5 hs5 hb5 hbx5 hwr hrun h5 h6 e0 e1 d0 hW1
  go_wp2_with fail
  refine HW2.out.mono ?_
  rintro e W6 ⟨rfl, ⟨y, h7⟩, h8⟩
  have H6 := Lib.hid (And.intro h7 h8)
  clear h7 h8 c0 c1 c2
  go_wp2_with fail
  refine (bstring_c H6.out.1 x.enc_ne HL.out).mono ?_
  rintro e W7 ⟨rfl, h9⟩
  have H7 := Lib.hid (H6.out.2.trans (h9.mono HX.out))
  clear h9
  go_wp2_with fail
  go_ret
  exact ⟨rfl, H7.out⟩
end Go.Proofs.Ytgaaalacoeainaa
