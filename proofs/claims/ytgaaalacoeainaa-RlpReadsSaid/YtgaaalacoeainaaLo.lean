/- The writer. -/
import Derived.Test.YtgaaalacoeainaaLm
namespace Go.Proofs.Ytgaaalacoeainaa
open Go.RowKit

/-- The writer in block b: it has written the bytes s.1; the sizes s.2 are still to come, they lie in block gz. -/
structure WrS (b B gz : Nat) (s : List UInt8 × List Nat) (W : World) : Prop where
  hgz : gz < B ∧ gz ≠ b ∧ gz < W.heap.size
  bd : ∃ o c, BdS 68 b B s.1 (.slice (some ⟨gz, o, none⟩) s.2.length c) W ∧ s.2.length ≤ c ∧ ∀ j (h : j < s.2.length), W.cell? ⟨gz, o + j, none⟩ = some (.int .i64 ((s.2[j]'h : Nat) : Int))
def WrF (b gz : Nat) (W : World) (k : Nat) : Prop := BdF b W k ∨ k = gz
theorem BdS.blt {T : TypeId} {b B : Nat} {bs : List UInt8} {x : Value} {W : World} (h : BdS T b B bs x W) : b < W.heap.size := by
  obtain ⟨pv, v, h1, _⟩ := h.row
  exact lt_of h1
theorem BdS.ftlt {T : TypeId} {b B : Nat} {bs : List UInt8} {x : Value} {W : World} (h : BdS T b B bs x W) : ∀ k, BdF b W k → k < W.heap.size ∧ (k = b ∨ B ≤ k) := by
  intro k hk
  obtain ⟨pv, v, h1, _, h2⟩ := h.row
  rcases hk with rfl | ⟨u, hu, hk⟩
  · exact ⟨lt_of h1, Or.inl rfl⟩
  · rw [cell_of h1] at hu
    obtain rfl : v = u := by simpa using hu
    exact ⟨(h2.lt k hk).2, Or.inr (h2.lt k hk).1⟩
theorem BdS.kept {T : TypeId} {b B : Nat} {bs : List UInt8} {x : Value} {W W' : World} (h : BdS T b B bs x W) (hk : ∀ k, BdF b W k → W'.heap[k]? = W.heap[k]?) : BdS T b B bs x W' ∧ ∀ k, BdF b W' k ↔ BdF b W k := by
  obtain ⟨pv, v, h1, hp, h2⟩ := h.row
  have hb := hk b (Or.inl rfl)
  have hc : W'.cell? ⟨b, 1, none⟩ = W.cell? ⟨b, 1, none⟩ := World.cell?_of_block hb
  refine ⟨⟨h.lt, pv, v, hb.trans h1, hp, own_keep h2 fun k hv => hk k (Or.inr ⟨v, cell_of h1 1, hv⟩)⟩, fun k => ?_⟩
  unfold BdF
  rw [hc]
theorem BdS.calm {T : TypeId} {b B : Nat} {bs : List UInt8} {x : Value} {W W' : World} (h : BdS T b B bs x W) (hb : Below W.heap.size W W') : BdS T b B bs x W' ∧ Chg (BdF b W) (BdF b W') W W' := by
  obtain ⟨h1, h2⟩ := h.kept fun k hk => hb.block k (h.ftlt k hk).1
  exact ⟨h1, hb.os, hb.tape, hb.output, hb.size, fun k hk _ => hb.block k hk, fun k hk => Or.inl ((h2 k).1 hk)⟩
theorem WrS.kept {b B gz : Nat} {s : List UInt8 × List Nat} {W W' : World} (h : WrS b B gz s W) (hk : ∀ k, WrF b gz W k → W'.heap[k]? = W.heap[k]?) (hs : W.heap.size ≤ W'.heap.size) : WrS b B gz s W' ∧ ∀ k, WrF b gz W' k ↔ WrF b gz W k := by
  obtain ⟨o, c, h1, h2, h3⟩ := h.bd
  obtain ⟨g1, g2⟩ := h1.kept fun k hf => hk k (Or.inl hf)
  refine ⟨⟨⟨h.hgz.1, h.hgz.2.1, Nat.lt_of_lt_of_le h.hgz.2.2 hs⟩, o, c, g1, h2, fun j hj => (World.cell?_of_block (hk gz (Or.inr rfl))).trans (h3 j hj)⟩, fun k => ?_⟩
  unfold WrF
  rw [g2]
theorem WrS.ftlt {b B gz : Nat} {s : List UInt8 × List Nat} {W : World} (h : WrS b B gz s W) : ∀ k, WrF b gz W k → k < W.heap.size := by
  obtain ⟨o, c, h1, _⟩ := h.bd
  intro k hk
  rcases hk with hk | rfl
  · exact (h1.ftlt k hk).1
  · exact h.hgz.2.2
/-- What WriteString does, said of the writer. -/
theorem WrS.wrote {b B gz o c : Nat} {bs bs' : List UInt8} {zs : List Nat} {W W' : World} (hg : gz < B ∧ gz ≠ b ∧ gz < W.heap.size) (h0 : BdS 68 b B bs (.slice (some ⟨gz, o, none⟩) zs.length c) W) (hc : zs.length ≤ c) (h3 : ∀ j (h : j < zs.length), W.cell? ⟨gz, o + j, none⟩ = some (.int .i64 ((zs[j]'h : Nat) : Int)))
    (h1 : BdS 68 b B bs' (.slice (some ⟨gz, o, none⟩) zs.length c) W') (h2 : Chg (BdF b W) (BdF b W') W W') : WrS b B gz (bs', zs) W' ∧ Chg (WrF b gz W) (WrF b gz W') W W' := by
  have hgz : W'.heap[gz]? = W.heap[gz]? := h2.block gz hg.2.2 (fun hf => by have := (h0.ftlt gz hf).2; omega)
  refine ⟨⟨⟨hg.1, hg.2.1, Nat.lt_of_lt_of_le hg.2.2 h2.size⟩, o, c, h1, hc, fun j hj => (World.cell?_of_block hgz).trans (h3 j hj)⟩, h2.os, h2.tape, h2.output, h2.size, fun k hk hn => h2.block k hk (fun hf => hn (Or.inl hf)), fun k hk => ?_⟩
  rcases hk with hk | rfl
  · exact (h2.new k hk).imp (fun h => Or.inl h) id
  · exact Or.inl (Or.inr rfl)
set_option maxRecDepth 100000 in
set_option maxHeartbeats 2000000 in
theorem wrtext_c {b B gz : Nat} {out : List UInt8} {zs : List Nat} {W : World} (h : WrS b B gz (out, zs) W) (t : List UInt8) (hn : out.length + (encT t).length ≤ 100000000000) (hB : B ≤ W.heap.size) :
    Calls Try.prog 31 #[.pointer (some ⟨b, 0, none⟩), .string (str t)] W fun e W' => e = .returned (.tuple #[]) ∧ WrS b B gz (out ++ encT t, zs) W' ∧ Chg (WrF b gz W) (WrF b gz W') W W' := by
  obtain ⟨o, c, h1, h2, h3⟩ := h.bd
  have hl := encT_len t
  have HT := Lib.hid (fun W => headOf_c t (by omega) W)
  have HW1 := Lib.hid (fun W1 (h1 : BdS 68 b B out (.slice (some ⟨gz, o, none⟩) zs.length c) W1) hB => wstring_c (Or.inl rfl) h1 (hdT t) (by omega) hB)
  have HW2 := Lib.hid (fun W1 (h1 : BdS 68 b B (out ++ hdT t) (.slice (some ⟨gz, o, none⟩) zs.length c) W1) hB => wstring_c (Or.inl rfl) h1 t (by simp; omega) hB)
  have H := Lib.hid (And.intro h.hgz (And.intro h1 (And.intro h2 (And.intro h3 hB))))
  have HE := Lib.hid (show out ++ encT t = (out ++ hdT t) ++ t by simp [encT])
  clear h h1 h2 h3 hB hl hn
  generalize str t = x at *
  generalize str (hdT t) = y at *
  go_enter Try.func31, Try.ntmps31
  go_wp2_with fail
  have H0 : True := trivial
  have HS := Lib.hid (fun (V : World) (_ : True) => True.intro)
  refine Drawn.start (fun _ => True) (fun _ => false) (by kernel_rfl) ?_
  refine Drawn.take 0 (some 4) (v := ?_) rfl rfl (by kernel_rfl) (by kernel_rfl) (by kernel_rfl) (by kernel_rfl) (by kernel_rfl) rfl (fun _ _ _ h => h) (Or.inl ⟨rfl, ?_⟩) H0 ?_
  rotate_left
  · intro W hW; have hW := HS.out W hW; go_simp; try with_reducible rfl
  simp only [put_list, List.set]
  refine Drawn.take 1 (some 5) (v := ?_) rfl rfl (by kernel_rfl) (by kernel_rfl) (by kernel_rfl) (by kernel_rfl) (by kernel_rfl) rfl (fun _ _ _ h => h) (Or.inl ⟨rfl, ?_⟩) H0 ?_
  rotate_left
  · intro W hW; have hW := HS.out W hW; go_simp; try with_reducible rfl
  simp only [put_list, List.set]
  refine Drawn.take 2 (some 6) (v := ?_) rfl rfl (by kernel_rfl) (by kernel_rfl) (by kernel_rfl) (by kernel_rfl) (by kernel_rfl) rfl (fun _ _ _ h => h) (Or.inl ⟨rfl, ?_⟩) H0 ?_
  rotate_left
  · intro W hW; have hW := HS.out W hW; go_simp; try with_reducible rfl
  simp only [put_list, List.set]
  refine Drawn.take 3 (some 7) (v := ?_) rfl rfl (by kernel_rfl) (by kernel_rfl) (by kernel_rfl) (by kernel_rfl) (by kernel_rfl) rfl (fun _ _ _ h => h) (Or.inl ⟨rfl, ?_⟩) H0 ?_
  rotate_left
  · intro W hW; have hW := HS.out W hW; go_simp; try with_reducible rfl
  simp only [put_list, List.set]
  refine Drawn.only 4 (by kernel_rfl) rfl rfl (fun K hK => ?_)
  go_simp
  refine (HT.out _).mono ?_
  rintro e W1 ⟨rfl, hb1⟩
  have H1 := Lib.hid (H.out.2.1.calm (W' := W1) ⟨hb1.os, hb1.tape, hb1.output, hb1.size, hb1.block⟩)
  clear hb1
  refine hK _ _ (fun _ _ => trivial) ?_
  clear hK K
  try simp only [put_list, List.set]
  refine Drawn.only 5 (by kernel_rfl) rfl rfl (fun K hK => ?_)
  go_simp
  refine (HW1.out _ H1.out.1 (Nat.le_trans H.out.2.2.2.2 H1.out.2.size)).mono ?_
  rintro e W2 ⟨⟨n, rfl⟩, h2, h3⟩
  have H2 := Lib.hid (And.intro h2 (H1.out.2.trans h3))
  clear h2 h3
  refine hK _ _ (fun _ _ => trivial) ?_
  clear hK K
  refine Drawn.done (by kernel_rfl) ?_ _
  try simp only [put_list, List.set]
  go_wp2_with (go_at_call 49; refine (HW2.out _ H2.out.1 (Nat.le_trans H.out.2.2.2.2 H2.out.2.size)).mono ?_; rintro e W3 ⟨⟨n, rfl⟩, h2, h3⟩; have H3 := Lib.hid (WrS.wrote H.out.1 H.out.2.1 H.out.2.2.1 H.out.2.2.2.1 h2 (H2.out.2.trans h3)); clear h2 h3)
  go_end0
  rw [HE.out]
  exact ⟨rfl, H3.out⟩
theorem BdS.setX {T : TypeId} {b B : Nat} {bs : List UInt8} {x : Value} {W : World} (h : BdS T b B bs x W) (x' : Value) : BdS T b B bs x' (W.setCell ⟨b, 2, none⟩ x') ∧ Chg (BdF b W) (BdF b (W.setCell ⟨b, 2, none⟩ x')) W (W.setCell ⟨b, 2, none⟩ x') := by
  obtain ⟨pv, v, h1, hp, h2⟩ := h.row
  have hlt := h.lt
  have h1' : (W.setCell ⟨b, 2, none⟩ x').heap[b]? = some (.cells #[pv, v, x'] T (0, 0)) := by simpa using heap_setCell_same _ _ 2 _ _ x' h1
  have hk : ∀ k, k ≠ b → (W.setCell ⟨b, 2, none⟩ x').heap[k]? = W.heap[k]? := fun k hk => heap_setCell_other _ _ _ _ (by simpa using hk)
  refine ⟨⟨hlt, pv, v, h1', hp, own_keep h2 fun k hv => hk k (by have := (h2.lt k hv).1; omega)⟩, rfl, rfl, rfl, by simp [World.setCell], fun k _ hn => hk k (fun e => hn (Or.inl e)), fun k hf => Or.inl ?_⟩
  rcases hf with rfl | ⟨u, hu, hf⟩
  · exact Or.inl rfl
  · rw [cell_of h1'] at hu
    exact Or.inr ⟨u, by rw [cell_of h1]; exact hu, hf⟩
theorem slice_one_int (g o k c : Nat) (W : World) : (Instr.slice 59 (.slice (some ⟨g, o, Option.none⟩) (k + 1) c) (some (.int .i64 1)) Option.none Option.none).run Try.prog W = .ok (.slice (some ⟨g, if c = 1 then o else o + 1, Option.none⟩) k (c - 1)) W := by
  have he : (sizeOf (Try.prog.elem 59)).run Try.prog W = .ok 1 W := by kernel_rfl
  rw [run_slice_l W 59 (some ⟨g, o, Option.none⟩) (k + 1) c (by rw [Try.underlying59]; kernel_rfl) .i64 1 (by omega) (by omega), he]
  simp only [Result.andThen_ok]
  unfold sliced
  have h1 : Int.toNat 1 = 1 := rfl
  rw [h1]
  by_cases h : c = 1
  · rw [if_pos h, if_pos h]; rfl
  · rw [if_neg h, if_neg h]
    have e : (⟨g, o, Option.none⟩ : Addr).add (1 * 1) = ⟨g, o + 1, Option.none⟩ := by unfold Addr.add; split <;> simp_all
    simp [e]
set_option maxRecDepth 100000 in
set_option maxHeartbeats 2000000 in
theorem wrbegin_c {b B gz : Nat} {out : List UInt8} {n : Nat} {zs : List Nat} {W : World} (h : WrS b B gz (out, n :: zs) W) (hn : out.length + (hd 192 n).length ≤ 100000000000) (hnn : n < 1000000000000) (hB : B ≤ W.heap.size) :
    Calls Try.prog 30 #[.pointer (some ⟨b, 0, none⟩)] W fun e W' => e = .returned (.tuple #[]) ∧ WrS b B gz (out ++ hd 192 n, zs) W' ∧ Chg (WrF b gz W) (WrF b gz W') W W' := by
  obtain ⟨o, c, h1, h2, h3⟩ := h.bd
  have HT := Lib.hid (fun W => (show Calls Try.prog 46 #[.int .u8 192, .int .i64 (n : Nat)] W _ from hd_c 192 n (Or.inr rfl) (by omega) W))
  have HW1 := Lib.hid (fun W1 (h1 : BdS 68 b B out (.slice (some ⟨gz, o, none⟩) (zs.length + 1) c) W1) hB => wstring_c (Or.inl rfl) h1 (hd 192 n) (by omega) hB)
  have H := Lib.hid (show (gz < B ∧ gz ≠ b ∧ gz < W.heap.size) ∧ BdS 68 b B out (.slice (some ⟨gz, o, none⟩) (zs.length + 1) c) W ∧ zs.length + 1 ≤ c ∧ (∀ j (h : j < (n :: zs).length), W.cell? ⟨gz, o + j, none⟩ = some (.int .i64 (((n :: zs)[j]'h : Nat) : Int))) ∧ B ≤ W.heap.size from ⟨h.hgz, h1, h2, h3, hB⟩)
  have hc : (0 : Int) < (zs.length : Int) + 1 := by omega
  have hc1 : (1 : Int) ≤ (zs.length : Int) + 1 := by omega
  clear h h1 h2 h3 hB hn hnn
  have H0 : W.drew.cell? ⟨b, 2, none⟩ = some (.slice (some ⟨gz, o, none⟩) (zs.length + 1) c) ∧ W.drew.cell? ⟨gz, o, none⟩ = some (.int .i64 (n : Nat)) := by
    obtain ⟨pv, v, h1, _⟩ := H.out.2.1.row
    exact ⟨cell_of (w := W.drew) h1 2, H.out.2.2.2.1 0 (by simp)⟩
  have hsl := slice_one_int gz o zs.length c
  obtain ⟨o2, ho2⟩ : ∃ o2, (if c = 1 then o else o + 1) = o2 := ⟨_, rfl⟩
  rw [ho2] at hsl
  have HO2 := Lib.hid ho2
  clear ho2
  generalize hh : hd 192 n = hb at *
  have HH := Lib.hid hh
  clear hh
  generalize str hb = y at *
  generalize hk : zs.length = k at *
  have HK := Lib.hid hk
  clear hk
  go_enter Try.func30, Try.ntmps30
  go_wp2_with fail
  have HS := Lib.hid (fun (V : World) (hV : V.cell? ⟨b, 2, none⟩ = some (.slice (some ⟨gz, o, none⟩) (k + 1) c) ∧ V.cell? ⟨gz, o, none⟩ = some (.int .i64 (n : Nat))) => hV)
  refine Drawn.start (fun V => V.cell? ⟨b, 2, none⟩ = some (.slice (some ⟨gz, o, none⟩) (k + 1) c) ∧ V.cell? ⟨gz, o, none⟩ = some (.int .i64 (n : Nat))) (fun _ => false) (by kernel_rfl) ?_
  refine Drawn.take 0 (some 2) (v := ?_) rfl rfl (by kernel_rfl) (by kernel_rfl) (by kernel_rfl) (by kernel_rfl) (by kernel_rfl) rfl (fun _ _ _ h => h) (Or.inl ⟨rfl, ?_⟩) H0 ?_
  rotate_left
  · intro W hW; have hW := HS.out W hW; go_simp; try with_reducible rfl
  simp only [put_list, List.set]
  refine Drawn.take 1 (some 3) (v := ?_) rfl rfl (by kernel_rfl) (by kernel_rfl) (by kernel_rfl) (by kernel_rfl) (by kernel_rfl) rfl (fun _ _ _ h => h) (Or.inl ⟨rfl, ?_⟩) H0 ?_
  rotate_left
  · intro W hW; have hW := HS.out W hW; go_simp; try with_reducible rfl
  simp only [put_list, List.set]
  refine Drawn.take 2 (some 4) (v := ?_) rfl rfl (by kernel_rfl) (by kernel_rfl) (by kernel_rfl) (by kernel_rfl) (by kernel_rfl) rfl (fun _ _ _ h => h) (Or.inl ⟨rfl, ?_⟩) H0 ?_
  rotate_left
  · intro W hW; have hW := HS.out W hW; go_simp; try with_reducible rfl
  simp only [put_list, List.set]
  refine Drawn.take 3 (some 5) (v := ?_) rfl rfl (by kernel_rfl) (by kernel_rfl) (by kernel_rfl) (by kernel_rfl) (by kernel_rfl) rfl (fun _ _ _ h => h) (Or.inl ⟨rfl, ?_⟩) H0 ?_
  rotate_left
  · intro W hW; have hW := HS.out W hW; go_simp; try with_reducible rfl
  simp only [put_list, List.set]
  refine Drawn.take 4 (some 6) (v := ?_) rfl rfl (by kernel_rfl) (by kernel_rfl) (by kernel_rfl) (by kernel_rfl) (by kernel_rfl) rfl (fun _ _ _ h => h) (Or.inl ⟨rfl, ?_⟩) H0 ?_
  rotate_left
  · intro W hW; have hW := HS.out W hW; go_simp; try with_reducible rfl
  simp only [put_list, List.set]
  refine Drawn.take 5 (some 7) (v := ?_) rfl rfl (by kernel_rfl) (by kernel_rfl) (by kernel_rfl) (by kernel_rfl) (by kernel_rfl) rfl (fun _ _ _ h => h) (Or.inl ⟨rfl, ?_⟩) H0 ?_
  rotate_left
  · intro W hW; have hW := HS.out W hW; go_simp; try with_reducible rfl
  simp only [put_list, List.set]
  refine Drawn.take 6 (some 8) (v := ?_) rfl rfl (by kernel_rfl) (by kernel_rfl) (by kernel_rfl) (by kernel_rfl) (by kernel_rfl) rfl (fun _ _ _ h => h) (Or.inl ⟨rfl, ?_⟩) H0 ?_
  rotate_left
  · intro W hW; have hW := HS.out W hW; go_simp; try with_reducible rfl
  simp only [put_list, List.set]
  refine Drawn.take 7 (some 9) (v := ?_) rfl rfl (by kernel_rfl) (by kernel_rfl) (by kernel_rfl) (by kernel_rfl) (by kernel_rfl) rfl (fun _ _ _ h => h) (Or.inl ⟨rfl, ?_⟩) H0 ?_
  rotate_left
  · intro W hW; have hW := HS.out W hW; go_simp; try with_reducible rfl
  simp only [put_list, List.set]
  refine Drawn.take 8 (some 10) (v := ?_) rfl rfl (by kernel_rfl) (by kernel_rfl) (by kernel_rfl) (by kernel_rfl) (by kernel_rfl) rfl (fun _ _ _ h => h) (Or.inl ⟨rfl, ?_⟩) H0 ?_
  rotate_left
  · intro W hW; have hW := HS.out W hW; go_simp; try with_reducible rfl
  simp only [put_list, List.set]
  refine Drawn.only 9 (by kernel_rfl) rfl rfl (fun K hK => ?_)
  go_simp
  refine (HT.out _).mono ?_
  rintro e W1 ⟨rfl, hb1⟩
  have H1 := Lib.hid (H.out.2.1.calm (W' := W1) ⟨hb1.os, hb1.tape, hb1.output, hb1.size, hb1.block⟩)
  have hS1 : W1.cell? ⟨b, 2, none⟩ = some (.slice (some ⟨gz, o, none⟩) (k + 1) c) ∧ W1.cell? ⟨gz, o, none⟩ = some (.int .i64 (n : Nat)) := ⟨(World.cell?_of_block (hb1.block b H.out.2.1.blt)).trans H0.1, (World.cell?_of_block (hb1.block gz H.out.1.2.2)).trans H0.2⟩
  clear hb1
  refine hK _ _ (fun _ _ => hS1) ?_
  clear hK K
  try simp only [put_list, List.set]
  refine Drawn.only 10 (by kernel_rfl) rfl rfl (fun K hK => ?_)
  go_simp
  refine (HW1.out _ H1.out.1 (Nat.le_trans H.out.2.2.2.2 H1.out.2.size)).mono ?_
  rintro e W2 ⟨⟨m, rfl⟩, h2, h3⟩
  have H2 := Lib.hid (And.intro h2 (H1.out.2.trans h3))
  have hgz2 : W2.heap[gz]? = W.heap[gz]? := H2.out.2.block gz H.out.1.2.2 (fun hf => by have := (H.out.2.1.ftlt gz hf).2; have := H.out.1; omega)
  have hS2 : W2.cell? ⟨b, 2, none⟩ = some (.slice (some ⟨gz, o, none⟩) (k + 1) c) ∧ W2.cell? ⟨gz, o, none⟩ = some (.int .i64 (n : Nat)) := by
    obtain ⟨pv, v, h1, _⟩ := h2.row
    exact ⟨cell_of h1 2, (World.cell?_of_block hgz2).trans H0.2⟩
  have c2 := hS2.1
  have z2 : W2.frozen? ⟨b, 2, none⟩ = false := by
    obtain ⟨pv, v, h1, _⟩ := h2.row
    exact free_of h1 2
  have HX := Lib.hid (h2.setX (.slice (some ⟨gz, o2, none⟩) k (c - 1)))
  clear h2 h3
  refine hK _ _ (fun _ _ => hS2) ?_
  clear hK K hS1 hS2 H0 HS
  refine Drawn.done (by kernel_rfl) ?_ _
  try simp only [put_list, List.set]
  go_wp2_with fail
  go_end0
  have hg := H.out.1
  have hgz3 : (W2.setCell ⟨b, 2, none⟩ (.slice (some ⟨gz, o2, none⟩) k (c - 1))).heap[gz]? = W.heap[gz]? := (heap_setCell_other _ _ _ _ (by simpa using hg.2.1)).trans hgz2
  have hch := H2.out.2.trans HX.out.2
  have hk := HK.out
  have hkc := H.out.2.2.1
  refine ⟨rfl, ⟨⟨hg.1, hg.2.1, Nat.lt_of_lt_of_le hg.2.2 hch.size⟩, o2, c - 1, by rw [hk]; exact HX.out.1, by rw [hk]; omega, fun j hj => ?_⟩, hch.os, hch.tape, hch.output, hch.size, fun k hk hn => hch.block k hk (fun hf => hn (Or.inl hf)), fun k hk => ?_⟩
  · simp only at hj
    have h1 := H.out.2.2.2.1 (j + 1) (by simp; omega)
    have ho := HO2.out
    rw [if_neg (by omega)] at ho
    refine (World.cell?_of_block hgz3).trans ?_
    rw [← ho, show o + 1 + j = o + (j + 1) by omega, h1]
    rfl
  · rcases hk with hk | rfl
    · exact (hch.new k hk).imp (fun h => Or.inl h) id
    · exact Or.inl (Or.inr rfl)
theorem wrend_c {b B gz : Nat} {s : List UInt8 × List Nat} {W : World} (h : WrS b B gz s W) :
    Calls Try.prog 32 #[.pointer (some ⟨b, 0, none⟩)] W fun e W' => e = .returned (.tuple #[]) ∧ WrS b B gz s W' ∧ Chg (WrF b gz W) (WrF b gz W') W W' := by
  go_enter Try.func32, Try.ntmps32
  go_wp2_with fail
  go_end0
  exact ⟨rfl, h, Chg.refl _ _⟩
end Go.Proofs.Ytgaaalacoeainaa
