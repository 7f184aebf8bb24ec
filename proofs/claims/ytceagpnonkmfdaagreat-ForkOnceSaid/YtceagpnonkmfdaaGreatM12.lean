/- Merged: Lo, Lp, Ln, Lq, Lr, Ls, Lc. -/
import Derived.Test.YtceagpnonkmfdaaGreatM11
import Derived.StillTailTactics
import Derived.Deep.QuietTactic
import Derived.BigQuiet
import Derived.Shelf.RegionOpenPlain
import Derived.Test.YtceagpnonkmfdaaGreatM09
import Derived.Lib.BitFns
section
namespace Go.Proofs.YtceagpnonkmfdaaGreat
open Go.RowKit

/-- The writer in block b: it has written the bytes s.1; the sizes s.2 are still to come, they lie in block gz. -/
structure WrS (b B gz : Nat) (s : List UInt8 × List Nat) (W : World) : Prop where
  hgz : gz < B ∧ gz ≠ b ∧ gz < W.heap.size
  bd : ∃ o c, BdS 187 b B s.1 (.slice (some ⟨gz, o, none⟩) s.2.length c) W ∧ s.2.length ≤ c ∧ ∀ j (h : j < s.2.length), W.cell? ⟨gz, o + j, none⟩ = some (.int .i64 ((s.2[j]'h : Nat) : Int))
def WrF (b gz : Nat) (W : World) (k : Nat) : Prop := BdF b W k ∨ k = gz
theorem BdS.blt {T : TypeId} {b B : Nat} {bs : List UInt8} {x : Value} {W : World} (h : BdS T b B bs x W) : b < W.heap.size := by
  obtain ⟨pv, v, h1, _⟩ := h.row
  exact lt_of h1
theorem BdS.ftlt {T : TypeId} {b B : Nat} {bs : List UInt8} {x : Value} {W : World} (h : BdS T b B bs x W) : ∀ k, BdF b W k → k < W.heap.size ∧ (k = b ∨ B ≤ k) := by
  intro k hk
  obtain ⟨pv, v, h1, _, h2⟩ := h.row
  rcases hk with rfl | ⟨u, hu, hk⟩
  · exact ⟨lt_of h1, Or.inl rfl⟩
  · rw [cell_of h1] at hu
    obtain rfl : v = u := by simpa using hu
    exact ⟨(h2.lt k hk).2, Or.inr (h2.lt k hk).1⟩
theorem BdS.kept {T : TypeId} {b B : Nat} {bs : List UInt8} {x : Value} {W W' : World} (h : BdS T b B bs x W) (hk : ∀ k, BdF b W k → W'.heap[k]? = W.heap[k]?) : BdS T b B bs x W' ∧ ∀ k, BdF b W' k ↔ BdF b W k := by
  obtain ⟨pv, v, h1, hp, h2⟩ := h.row
  have hb := hk b (Or.inl rfl)
  have hc : W'.cell? ⟨b, 1, none⟩ = W.cell? ⟨b, 1, none⟩ := World.cell?_of_block hb
  refine ⟨⟨h.lt, pv, v, hb.trans h1, hp, own_keep h2 fun k hv => hk k (Or.inr ⟨v, cell_of h1 1, hv⟩)⟩, fun k => ?_⟩
  unfold BdF
  rw [hc]
theorem BdS.calm {T : TypeId} {b B : Nat} {bs : List UInt8} {x : Value} {W W' : World} (h : BdS T b B bs x W) (hb : Below W.heap.size W W') : BdS T b B bs x W' ∧ Chg (BdF b W) (BdF b W') W W' := by
  obtain ⟨h1, h2⟩ := h.kept fun k hk => hb.block k (h.ftlt k hk).1
  exact ⟨h1, hb.os, hb.tape, hb.output, hb.size, fun k hk _ => hb.block k hk, fun k hk => Or.inl ((h2 k).1 hk)⟩
theorem WrS.kept {b B gz : Nat} {s : List UInt8 × List Nat} {W W' : World} (h : WrS b B gz s W) (hk : ∀ k, WrF b gz W k → W'.heap[k]? = W.heap[k]?) (hs : W.heap.size ≤ W'.heap.size) : WrS b B gz s W' ∧ ∀ k, WrF b gz W' k ↔ WrF b gz W k := by
  obtain ⟨o, c, h1, h2, h3⟩ := h.bd
  obtain ⟨g1, g2⟩ := h1.kept fun k hf => hk k (Or.inl hf)
  refine ⟨⟨⟨h.hgz.1, h.hgz.2.1, Nat.lt_of_lt_of_le h.hgz.2.2 hs⟩, o, c, g1, h2, fun j hj => (World.cell?_of_block (hk gz (Or.inr rfl))).trans (h3 j hj)⟩, fun k => ?_⟩
  unfold WrF
  rw [g2]
theorem WrS.ftlt {b B gz : Nat} {s : List UInt8 × List Nat} {W : World} (h : WrS b B gz s W) : ∀ k, WrF b gz W k → k < W.heap.size := by
  obtain ⟨o, c, h1, _⟩ := h.bd
  intro k hk
  rcases hk with hk | rfl
  · exact (h1.ftlt k hk).1
  · exact h.hgz.2.2
/-- What WriteString does, said of the writer. -/
theorem WrS.wrote {b B gz o c : Nat} {bs bs' : List UInt8} {zs : List Nat} {W W' : World} (hg : gz < B ∧ gz ≠ b ∧ gz < W.heap.size) (h0 : BdS 187 b B bs (.slice (some ⟨gz, o, none⟩) zs.length c) W) (hc : zs.length ≤ c) (h3 : ∀ j (h : j < zs.length), W.cell? ⟨gz, o + j, none⟩ = some (.int .i64 ((zs[j]'h : Nat) : Int)))
    (h1 : BdS 187 b B bs' (.slice (some ⟨gz, o, none⟩) zs.length c) W') (h2 : Chg (BdF b W) (BdF b W') W W') : WrS b B gz (bs', zs) W' ∧ Chg (WrF b gz W) (WrF b gz W') W W' := by
  have hgz : W'.heap[gz]? = W.heap[gz]? := h2.block gz hg.2.2 (fun hf => by have := (h0.ftlt gz hf).2; omega)
  refine ⟨⟨⟨hg.1, hg.2.1, Nat.lt_of_lt_of_le hg.2.2 h2.size⟩, o, c, h1, hc, fun j hj => (World.cell?_of_block hgz).trans (h3 j hj)⟩, h2.os, h2.tape, h2.output, h2.size, fun k hk hn => h2.block k hk (fun hf => hn (Or.inl hf)), fun k hk => ?_⟩
  rcases hk with hk | rfl
  · exact (h2.new k hk).imp (fun h => Or.inl h) id
  · exact Or.inl (Or.inr rfl)
set_option maxRecDepth 100000 in
set_option maxHeartbeats 2000000 in
theorem wrtext_c {b B gz : Nat} {out : List UInt8} {zs : List Nat} {W : World} (h : WrS b B gz (out, zs) W) (t : List UInt8) (hn : out.length + (encT t).length ≤ 100000000000) (hB : B ≤ W.heap.size) :
    Calls Tryz.prog 100 #[.pointer (some ⟨b, 0, none⟩), .string (str t)] W fun e W' => e = .returned (.tuple #[]) ∧ WrS b B gz (out ++ encT t, zs) W' ∧ Chg (WrF b gz W) (WrF b gz W') W W' := by
  obtain ⟨o, c, h1, h2, h3⟩ := h.bd
  have hl := encT_len t
  have HT := Lib.hid (fun W => headOf_c t (by omega) W)
  have HW1 := Lib.hid (fun W1 (h1 : BdS 187 b B out (.slice (some ⟨gz, o, none⟩) zs.length c) W1) hB => wstring_c (Or.inl rfl) h1 (hdT t) (by omega) hB)
  have HW2 := Lib.hid (fun W1 (h1 : BdS 187 b B (out ++ hdT t) (.slice (some ⟨gz, o, none⟩) zs.length c) W1) hB => wstring_c (Or.inl rfl) h1 t (by simp; omega) hB)
  have H := Lib.hid (And.intro h.hgz (And.intro h1 (And.intro h2 (And.intro h3 hB))))
  have HE := Lib.hid (show out ++ encT t = (out ++ hdT t) ++ t by simp [encT])
  clear h h1 h2 h3 hB hl hn
  generalize str t = x at *
  generalize str (hdT t) = y at *
  go_enter Tryz.func100, Tryz.ntmps100
  go_wp2_with fail
  have H0 : True := trivial
  have HS := Lib.hid (fun (V : World) (_ : True) => True.intro)
  refine Drawn.start (fun _ => True) (fun _ => false) (by kernel_rfl) ?_
  refine Drawn.take 0 (some 4) (v := ?_) rfl rfl (by kernel_rfl) (by kernel_rfl) (by kernel_rfl) (by kernel_rfl) (by kernel_rfl) rfl (fun _ _ _ h => h) (Or.inl ⟨rfl, ?_⟩) H0 ?_
  rotate_left
  · intro W hW; have hW := HS.out W hW; go_simp; try with_reducible rfl
  simp only [put_list, List.set]
  refine Drawn.take 1 (some 5) (v := ?_) rfl rfl (by kernel_rfl) (by kernel_rfl) (by kernel_rfl) (by kernel_rfl) (by kernel_rfl) rfl (fun _ _ _ h => h) (Or.inl ⟨rfl, ?_⟩) H0 ?_
  rotate_left
  · intro W hW; have hW := HS.out W hW; go_simp; try with_reducible rfl
  simp only [put_list, List.set]
  refine Drawn.take 2 (some 6) (v := ?_) rfl rfl (by kernel_rfl) (by kernel_rfl) (by kernel_rfl) (by kernel_rfl) (by kernel_rfl) rfl (fun _ _ _ h => h) (Or.inl ⟨rfl, ?_⟩) H0 ?_
  rotate_left
  · intro W hW; have hW := HS.out W hW; go_simp; try with_reducible rfl
  simp only [put_list, List.set]
  refine Drawn.take 3 (some 7) (v := ?_) rfl rfl (by kernel_rfl) (by kernel_rfl) (by kernel_rfl) (by kernel_rfl) (by kernel_rfl) rfl (fun _ _ _ h => h) (Or.inl ⟨rfl, ?_⟩) H0 ?_
  rotate_left
  · intro W hW; have hW := HS.out W hW; go_simp; try with_reducible rfl
  simp only [put_list, List.set]
  refine Drawn.only 4 (by kernel_rfl) rfl rfl (fun K hK => ?_)
  go_simp
  refine (HT.out _).mono ?_
  rintro e W1 ⟨rfl, hb1⟩
  have H1 := Lib.hid (H.out.2.1.calm (W' := W1) ⟨hb1.os, hb1.tape, hb1.output, hb1.size, hb1.block⟩)
  clear hb1
  refine hK _ _ (fun _ _ => trivial) ?_
  clear hK K
  try simp only [put_list, List.set]
  refine Drawn.only 5 (by kernel_rfl) rfl rfl (fun K hK => ?_)
  go_simp
  refine (HW1.out _ H1.out.1 (Nat.le_trans H.out.2.2.2.2 H1.out.2.size)).mono ?_
  rintro e W2 ⟨⟨n, rfl⟩, h2, h3⟩
  have H2 := Lib.hid (And.intro h2 (H1.out.2.trans h3))
  clear h2 h3
  refine hK _ _ (fun _ _ => trivial) ?_
  clear hK K
  refine Drawn.done (by kernel_rfl) ?_ _
  try simp only [put_list, List.set]
  go_wp2_with (go_at_call 132; refine (HW2.out _ H2.out.1 (Nat.le_trans H.out.2.2.2.2 H2.out.2.size)).mono ?_; rintro e W3 ⟨⟨n, rfl⟩, h2, h3⟩; have H3 := Lib.hid (WrS.wrote H.out.1 H.out.2.1 H.out.2.2.1 H.out.2.2.2.1 h2 (H2.out.2.trans h3)); clear h2 h3)
  go_end0
  rw [HE.out]
  exact ⟨rfl, H3.out⟩
theorem BdS.setX {T : TypeId} {b B : Nat} {bs : List UInt8} {x : Value} {W : World} (h : BdS T b B bs x W) (x' : Value) : BdS T b B bs x' (W.setCell ⟨b, 2, none⟩ x') ∧ Chg (BdF b W) (BdF b (W.setCell ⟨b, 2, none⟩ x')) W (W.setCell ⟨b, 2, none⟩ x') := by
  obtain ⟨pv, v, h1, hp, h2⟩ := h.row
  have hlt := h.lt
  have h1' : (W.setCell ⟨b, 2, none⟩ x').heap[b]? = some (.cells #[pv, v, x'] T (0, 0)) := by simpa using heap_setCell_same _ _ 2 _ _ x' h1
  have hk : ∀ k, k ≠ b → (W.setCell ⟨b, 2, none⟩ x').heap[k]? = W.heap[k]? := fun k hk => heap_setCell_other _ _ _ _ (by simpa using hk)
  refine ⟨⟨hlt, pv, v, h1', hp, own_keep h2 fun k hv => hk k (by have := (h2.lt k hv).1; omega)⟩, rfl, rfl, rfl, by simp [World.setCell], fun k _ hn => hk k (fun e => hn (Or.inl e)), fun k hf => Or.inl ?_⟩
  rcases hf with rfl | ⟨u, hu, hf⟩
  · exact Or.inl rfl
  · rw [cell_of h1'] at hu
    exact Or.inr ⟨u, by rw [cell_of h1]; exact hu, hf⟩
theorem slice_one_int (g o k c : Nat) (W : World) : (Instr.slice 172 (.slice (some ⟨g, o, Option.none⟩) (k + 1) c) (some (.int .i64 1)) Option.none Option.none).run Tryz.prog W = .ok (.slice (some ⟨g, if c = 1 then o else o + 1, Option.none⟩) k (c - 1)) W := by
  have he : (sizeOf (Tryz.prog.elem 172)).run Tryz.prog W = .ok 1 W := by kernel_rfl
  rw [run_slice_l W 172 (some ⟨g, o, Option.none⟩) (k + 1) c (by rw [Tryz.underlying172]; kernel_rfl) .i64 1 (by omega) (by omega), he]
  simp only [Result.andThen_ok]
  unfold sliced
  have h1 : Int.toNat 1 = 1 := rfl
  rw [h1]
  by_cases h : c = 1
  · rw [if_pos h, if_pos h]; rfl
  · rw [if_neg h, if_neg h]
    have e : (⟨g, o, Option.none⟩ : Addr).add (1 * 1) = ⟨g, o + 1, Option.none⟩ := by unfold Addr.add; split <;> simp_all
    simp [e]
set_option maxRecDepth 100000 in
set_option maxHeartbeats 2000000 in
theorem wrbegin_c {b B gz : Nat} {out : List UInt8} {n : Nat} {zs : List Nat} {W : World} (h : WrS b B gz (out, n :: zs) W) (hn : out.length + (hd 192 n).length ≤ 100000000000) (hnn : n < 1000000000000) (hB : B ≤ W.heap.size) :
    Calls Tryz.prog 99 #[.pointer (some ⟨b, 0, none⟩)] W fun e W' => e = .returned (.tuple #[]) ∧ WrS b B gz (out ++ hd 192 n, zs) W' ∧ Chg (WrF b gz W) (WrF b gz W') W W' := by
  obtain ⟨o, c, h1, h2, h3⟩ := h.bd
  have HT := Lib.hid (fun W => (show Calls Tryz.prog 129 #[.int .u8 192, .int .i64 (n : Nat)] W _ from hd_c 192 n (Or.inr rfl) (by omega) W))
  have HW1 := Lib.hid (fun W1 (h1 : BdS 187 b B out (.slice (some ⟨gz, o, none⟩) (zs.length + 1) c) W1) hB => wstring_c (Or.inl rfl) h1 (hd 192 n) (by omega) hB)
  have H := Lib.hid (show (gz < B ∧ gz ≠ b ∧ gz < W.heap.size) ∧ BdS 187 b B out (.slice (some ⟨gz, o, none⟩) (zs.length + 1) c) W ∧ zs.length + 1 ≤ c ∧ (∀ j (h : j < (n :: zs).length), W.cell? ⟨gz, o + j, none⟩ = some (.int .i64 (((n :: zs)[j]'h : Nat) : Int))) ∧ B ≤ W.heap.size from ⟨h.hgz, h1, h2, h3, hB⟩)
  have hc : (0 : Int) < (zs.length : Int) + 1 := by omega
  have hc1 : (1 : Int) ≤ (zs.length : Int) + 1 := by omega
  clear h h1 h2 h3 hB hn hnn
  have H0 : W.drew.cell? ⟨b, 2, none⟩ = some (.slice (some ⟨gz, o, none⟩) (zs.length + 1) c) ∧ W.drew.cell? ⟨gz, o, none⟩ = some (.int .i64 (n : Nat)) := by
    obtain ⟨pv, v, h1, _⟩ := H.out.2.1.row
    exact ⟨cell_of (w := W.drew) h1 2, H.out.2.2.2.1 0 (by simp)⟩
  have hsl := slice_one_int gz o zs.length c
  obtain ⟨o2, ho2⟩ : ∃ o2, (if c = 1 then o else o + 1) = o2 := ⟨_, rfl⟩
  rw [ho2] at hsl
  have HO2 := Lib.hid ho2
  clear ho2
  generalize hh : hd 192 n = hb at *
  have HH := Lib.hid hh
  clear hh
  generalize str hb = y at *
  generalize hk : zs.length = k at *
  have HK := Lib.hid hk
  clear hk
  go_enter Tryz.func99, Tryz.ntmps99
  go_wp2_with fail
  have HS := Lib.hid (fun (V : World) (hV : V.cell? ⟨b, 2, none⟩ = some (.slice (some ⟨gz, o, none⟩) (k + 1) c) ∧ V.cell? ⟨gz, o, none⟩ = some (.int .i64 (n : Nat))) => hV)
  refine Drawn.start (fun V => V.cell? ⟨b, 2, none⟩ = some (.slice (some ⟨gz, o, none⟩) (k + 1) c) ∧ V.cell? ⟨gz, o, none⟩ = some (.int .i64 (n : Nat))) (fun _ => false) (by kernel_rfl) ?_
  refine Drawn.take 0 (some 2) (v := ?_) rfl rfl (by kernel_rfl) (by kernel_rfl) (by kernel_rfl) (by kernel_rfl) (by kernel_rfl) rfl (fun _ _ _ h => h) (Or.inl ⟨rfl, ?_⟩) H0 ?_
  rotate_left
  · intro W hW; have hW := HS.out W hW; go_simp; try with_reducible rfl
  simp only [put_list, List.set]
  refine Drawn.take 1 (some 3) (v := ?_) rfl rfl (by kernel_rfl) (by kernel_rfl) (by kernel_rfl) (by kernel_rfl) (by kernel_rfl) rfl (fun _ _ _ h => h) (Or.inl ⟨rfl, ?_⟩) H0 ?_
  rotate_left
  · intro W hW; have hW := HS.out W hW; go_simp; try with_reducible rfl
  simp only [put_list, List.set]
  refine Drawn.take 2 (some 4) (v := ?_) rfl rfl (by kernel_rfl) (by kernel_rfl) (by kernel_rfl) (by kernel_rfl) (by kernel_rfl) rfl (fun _ _ _ h => h) (Or.inl ⟨rfl, ?_⟩) H0 ?_
  rotate_left
  · intro W hW; have hW := HS.out W hW; go_simp; try with_reducible rfl
  simp only [put_list, List.set]
  refine Drawn.take 3 (some 5) (v := ?_) rfl rfl (by kernel_rfl) (by kernel_rfl) (by kernel_rfl) (by kernel_rfl) (by kernel_rfl) rfl (fun _ _ _ h => h) (Or.inl ⟨rfl, ?_⟩) H0 ?_
  rotate_left
  · intro W hW; have hW := HS.out W hW; go_simp; try with_reducible rfl
  simp only [put_list, List.set]
  refine Drawn.take 4 (some 6) (v := ?_) rfl rfl (by kernel_rfl) (by kernel_rfl) (by kernel_rfl) (by kernel_rfl) (by kernel_rfl) rfl (fun _ _ _ h => h) (Or.inl ⟨rfl, ?_⟩) H0 ?_
  rotate_left
  · intro W hW; have hW := HS.out W hW; go_simp; try with_reducible rfl
  simp only [put_list, List.set]
  refine Drawn.take 5 (some 7) (v := ?_) rfl rfl (by kernel_rfl) (by kernel_rfl) (by kernel_rfl) (by kernel_rfl) (by kernel_rfl) rfl (fun _ _ _ h => h) (Or.inl ⟨rfl, ?_⟩) H0 ?_
  rotate_left
  · intro W hW; have hW := HS.out W hW; go_simp; try with_reducible rfl
  simp only [put_list, List.set]
  refine Drawn.take 6 (some 8) (v := ?_) rfl rfl (by kernel_rfl) (by kernel_rfl) (by kernel_rfl) (by kernel_rfl) (by kernel_rfl) rfl (fun _ _ _ h => h) (Or.inl ⟨rfl, ?_⟩) H0 ?_
  rotate_left
  · intro W hW; have hW := HS.out W hW; go_simp; try with_reducible rfl
  simp only [put_list, List.set]
  refine Drawn.take 7 (some 9) (v := ?_) rfl rfl (by kernel_rfl) (by kernel_rfl) (by kernel_rfl) (by kernel_rfl) (by kernel_rfl) rfl (fun _ _ _ h => h) (Or.inl ⟨rfl, ?_⟩) H0 ?_
  rotate_left
  · intro W hW; have hW := HS.out W hW; go_simp; try with_reducible rfl
  simp only [put_list, List.set]
  refine Drawn.take 8 (some 10) (v := ?_) rfl rfl (by kernel_rfl) (by kernel_rfl) (by kernel_rfl) (by kernel_rfl) (by kernel_rfl) rfl (fun _ _ _ h => h) (Or.inl ⟨rfl, ?_⟩) H0 ?_
  rotate_left
  · intro W hW; have hW := HS.out W hW; go_simp; try with_reducible rfl
  simp only [put_list, List.set]
  refine Drawn.only 9 (by kernel_rfl) rfl rfl (fun K hK => ?_)
  go_simp
  refine (HT.out _).mono ?_
  rintro e W1 ⟨rfl, hb1⟩
  have H1 := Lib.hid (H.out.2.1.calm (W' := W1) ⟨hb1.os, hb1.tape, hb1.output, hb1.size, hb1.block⟩)
  have hS1 : W1.cell? ⟨b, 2, none⟩ = some (.slice (some ⟨gz, o, none⟩) (k + 1) c) ∧ W1.cell? ⟨gz, o, none⟩ = some (.int .i64 (n : Nat)) := ⟨(World.cell?_of_block (hb1.block b H.out.2.1.blt)).trans H0.1, (World.cell?_of_block (hb1.block gz H.out.1.2.2)).trans H0.2⟩
  clear hb1
  refine hK _ _ (fun _ _ => hS1) ?_
  clear hK K
  try simp only [put_list, List.set]
  refine Drawn.only 10 (by kernel_rfl) rfl rfl (fun K hK => ?_)
  go_simp
  refine (HW1.out _ H1.out.1 (Nat.le_trans H.out.2.2.2.2 H1.out.2.size)).mono ?_
  rintro e W2 ⟨⟨m, rfl⟩, h2, h3⟩
  have H2 := Lib.hid (And.intro h2 (H1.out.2.trans h3))
  have hgz2 : W2.heap[gz]? = W.heap[gz]? := H2.out.2.block gz H.out.1.2.2 (fun hf => by have := (H.out.2.1.ftlt gz hf).2; have := H.out.1; omega)
  have hS2 : W2.cell? ⟨b, 2, none⟩ = some (.slice (some ⟨gz, o, none⟩) (k + 1) c) ∧ W2.cell? ⟨gz, o, none⟩ = some (.int .i64 (n : Nat)) := by
    obtain ⟨pv, v, h1, _⟩ := h2.row
    exact ⟨cell_of h1 2, (World.cell?_of_block hgz2).trans H0.2⟩
  have c2 := hS2.1
  have z2 : W2.frozen? ⟨b, 2, none⟩ = false := by
    obtain ⟨pv, v, h1, _⟩ := h2.row
    exact free_of h1 2
  have HX := Lib.hid (h2.setX (.slice (some ⟨gz, o2, none⟩) k (c - 1)))
  clear h2 h3
  refine hK _ _ (fun _ _ => hS2) ?_
  clear hK K hS1 hS2 H0 HS
  refine Drawn.done (by kernel_rfl) ?_ _
  try simp only [put_list, List.set]
  go_wp2_with fail
  go_end0
  have hg := H.out.1
  have hgz3 : (W2.setCell ⟨b, 2, none⟩ (.slice (some ⟨gz, o2, none⟩) k (c - 1))).heap[gz]? = W.heap[gz]? := (heap_setCell_other _ _ _ _ (by simpa using hg.2.1)).trans hgz2
  have hch := H2.out.2.trans HX.out.2
  have hk := HK.out
  have hkc := H.out.2.2.1
  refine ⟨rfl, ⟨⟨hg.1, hg.2.1, Nat.lt_of_lt_of_le hg.2.2 hch.size⟩, o2, c - 1, by rw [hk]; exact HX.out.1, by rw [hk]; omega, fun j hj => ?_⟩, hch.os, hch.tape, hch.output, hch.size, fun k hk hn => hch.block k hk (fun hf => hn (Or.inl hf)), fun k hk => ?_⟩
  · simp only at hj
    have h1 := H.out.2.2.2.1 (j + 1) (by simp; omega)
    have ho := HO2.out
    rw [if_neg (by omega)] at ho
    refine (World.cell?_of_block hgz3).trans ?_
    rw [← ho, show o + 1 + j = o + (j + 1) by omega, h1]
    rfl
  · rcases hk with hk | rfl
    · exact (hch.new k hk).imp (fun h => Or.inl h) id
    · exact Or.inl (Or.inr rfl)
theorem wrend_c {b B gz : Nat} {s : List UInt8 × List Nat} {W : World} (h : WrS b B gz s W) :
    Calls Tryz.prog 101 #[.pointer (some ⟨b, 0, none⟩)] W fun e W' => e = .returned (.tuple #[]) ∧ WrS b B gz s W' ∧ Chg (WrF b gz W) (WrF b gz W') W W' := by
  go_enter Tryz.func101, Tryz.ntmps101
  go_wp2_with fail
  go_end0
  exact ⟨rfl, h, Chg.refl _ _⟩
end Go.Proofs.YtceagpnonkmfdaaGreat
end
section
namespace Go.Proofs.YtceagpnonkmfdaaGreat
open Go.RowKit

theorem str_lit1 (a : List UInt8) (c : UInt8) : str a ++ (⟨#[c]⟩ : ByteArray) = str (a ++ [c]) := by rw [← str_append]; rfl
def hexS : ByteArray := ⟨#[48, 49, 50, 51, 52, 53, 54, 55, 56, 57, 97, 98, 99, 100, 101, 102]⟩
theorem hexS_get : ∀ d (h : d < hexS.size), hexS[d]'h = hexD d := by
  intro d h
  have hs : hexS.size = 16 := rfl
  have : d = 0 ∨ d = 1 ∨ d = 2 ∨ d = 3 ∨ d = 4 ∨ d = 5 ∨ d = 6 ∨ d = 7 ∨ d = 8 ∨ d = 9 ∨ d = 10 ∨ d = 11 ∨ d = 12 ∨ d = 13 ∨ d = 14 ∨ d = 15 := by omega
  rcases this with rfl | rfl | rfl | rfl | rfl | rfl | rfl | rfl | rfl | rfl | rfl | rfl | rfl | rfl | rfl | rfl <;> rfl
theorem hexS_at (d : Nat) (hd : d < 16) (W : World) : (Instr.index 9 (.string hexS) (.int .u8 (d : Nat))).run Tryz.prog W = .ok (.int .u8 ((hexD d).toNat : Nat)) W := by
  have hs : hexS.size = 16 := rfl
  rw [run_index_string W _ _ _ _ Tryz.underlying9, dif_pos ⟨by omega, by omega⟩]
  simp only [Int.toNat_natCast]
  rw [hexS_get]
theorem hexL_snoc (a : List UInt8) (c : UInt8) : hexL (a ++ [c]) = (hexL a ++ [hexD (c.toNat / 16)]) ++ [hexD (c.toNat % 16)] := by simp [hexL]
theorem hexL_len (a : List UInt8) : (hexL a).length = 2 * a.length := by
  induction a with
  | nil => rfl
  | cons c a ih => rw [show hexL (c :: a) = hexD (c.toNat / 16) :: hexD (c.toNat % 16) :: hexL a from rfl]; simp [ih]; omega
theorem Chg.drewL {F : World → Nat → Prop} {W W1 : World} (h : Chg (F W.drew) (F W1) W.drew W1) (hf : ∀ k, F W.drew k ↔ F W k) : Chg (F W) (F W1) W W1 :=
  ⟨h.os, h.tape, h.output, h.size, fun k hk hn => h.block k hk (fun hh => hn ((hf k).1 hh)), fun k hk => (h.new k hk).imp (fun hh => (hf k).1 hh) id⟩
theorem and_15 (n : Nat) (h : n < 256) : Go.bits .and .u8 (n : Int) 15 = (n : Int) % 16 := by
  have : ∀ m : Fin 256, Go.bits .and .u8 ((m.val : Nat) : Int) 15 = ((m.val : Nat) : Int) % 16 := by decide +kernel
  exact this ⟨n, h⟩
end Go.Proofs.YtceagpnonkmfdaaGreat
end
section
namespace Go.Proofs.YtceagpnonkmfdaaGreat
open Go.RowKit

theorem set_alloc (W : World) (b j : Nat) (v : Value) (o : Obj) (hb : b < W.heap.size) : ((W.setCell ⟨b, j, none⟩ v).alloc o).heap = ((W.alloc o).setCell ⟨b, j, none⟩ v).heap := by
  apply Array.ext_getElem?
  intro i
  rw [heap_alloc_get]
  have hs : (W.setCell ⟨b, j, none⟩ v).heap.size = W.heap.size := by simp [World.setCell]
  rw [hs]
  by_cases hi : i = W.heap.size
  · rw [if_pos hi, hi, heap_setCell_other _ _ _ _ (by simp; omega)]
    exact (heap_alloc_new _ _).symm
  · rw [if_neg hi]
    by_cases hib : i = b
    · subst hib
      have e : (W.alloc o).heap[i]? = W.heap[i]? := Below.heap_alloc _ _ _ hb
      simp only [World.setCell, Array.getElem?_modify, if_true, e]
    · rw [heap_setCell_other _ _ _ _ (by simpa using hib), heap_setCell_other _ _ _ _ (by simpa using hib), heap_alloc_get, if_neg hi]
set_option maxRecDepth 100000 in
set_option maxHeartbeats 2000000 in
theorem grow_c {T : TypeId} (_ : Hold T) (b B n : Nat) (x : Value) (W : World) (h : W.heap[b]? = some (.cells #[.pointer (some ⟨b, 0, none⟩), .slice none 0 0, x] T (0, 0))) (hb : b < B) (hB : B ≤ W.heap.size) (hn : n ≤ 1000000000) :
    Calls Tryz.prog 131 #[.pointer (some ⟨b, 0, none⟩), .int .i64 n] W fun e W' => e = .returned (.tuple #[]) ∧ BdS T b B [] x W' ∧ Chg (fun k => k = b) (BdF b W') W W' := by
  obtain ⟨cs, hrun, hle, hmax⟩ := Lib.run_makeNoZero (P := Tryz.prog) W.drew #[3] 142 5 Tryz.underlying142 n (by omega)
  have hw : IntKind.i64.wrap (IntKind.i64.wrap 0 + (n : Int)) = n := by
    rw [IntKind.wrap_i64, IntKind.wrap_i64]
    omega
  have hcall : (callFunc 148 #[.int .i64 (IntKind.i64.wrap (IntKind.i64.wrap 0 + (n : Int)))]).run Tryz.prog W.drew = .ok (.value (.slice (some ⟨W.drew.heap.size, 0, none⟩) n cs.size)) (W.drew.drew.drew.alloc (.cells cs 5)) := by
    rw [hw, run_callFunc_extern Tryz.func148 (by kernel_rfl) (by kernel_rfl) (by kernel_rfl) (e := Extern.BytealgMakeNoZero.makeNoZero #[3] #[142]) (by kernel_rfl), hrun]
    rfl
  have hlt : b < W.heap.size := lt_of h
  have c1 : W.drew.cell? ⟨b, 1, none⟩ = some (.slice none 0 0) := cell_of (w := W.drew) h 1
  have h2 : (W.alloc (.cells cs 5)).heap[b]? = some (.cells #[.pointer (some ⟨b, 0, none⟩), .slice none 0 0, x] T (0, 0)) := (Below.heap_alloc _ _ _ hlt).trans h
  have c2 : (W.alloc (.cells cs 5)).cell? ⟨b, 1, none⟩ = some (.slice none 0 0) := cell_of h2 1
  have f2 : (W.alloc (.cells cs 5)).frozen? ⟨b, 1, none⟩ = false := free_of h2 1
  obtain ⟨j0, hj0, hj1⟩ : ∃ j, Tryz.prog.info? 5 = some j ∧ j.size = 1 := by
    obtain ⟨i0, hi, _, hz1, _⟩ := info_parts infoByte
    exact ⟨i0, hi, hz1⟩
  have hcopy : ∀ V : World, (Builtin.copy_ #[142, 142] 3 #[.slice (some ⟨W.heap.size, 0, none⟩) 0 cs.size, .slice none 0 0]).run Tryz.prog V = .ok (goInt 0) V :=
    fun V => run_copy_none V 142 142 3 5 _ _ 0 cs.size 0 0 Tryz.underlying142 (by kernel_rfl) rfl
  have hfin : ∀ V : World, V.heap = ((W.alloc (.cells cs 5)).setCell ⟨b, 1, none⟩ (.slice (some ⟨W.heap.size, 0, none⟩) 0 cs.size)).heap → V.os = W.os → V.tape = W.tape → V.output = W.output → BdS T b B [] x V ∧ Chg (fun k => k = b) (BdF b V) W V := by
    intro V hV ho ht hout
    have hb' : V.heap[b]? = some (.cells #[.pointer (some ⟨b, 0, none⟩), .slice (some ⟨W.heap.size, 0, none⟩) 0 cs.size, x] T (0, 0)) := by
      rw [hV]
      simpa using heap_setCell_same _ _ 1 _ _ (.slice (some ⟨W.heap.size, 0, none⟩) 0 cs.size) h2
    have hn' : V.heap[W.heap.size]? = some (.cells cs 5 (0, 0)) := by
      rw [hV, heap_setCell_other _ _ _ _ (by simp; omega)]
      exact heap_alloc_new _ _
    refine ⟨⟨hb, _, _, hb', Or.inr rfl, ⟨rfl, Or.inr ⟨W.heap.size, cs.size, cs, rfl, hB, hn', Nat.zero_le _, hmax (by unfold maxLen; omega), by omega, by simp [Lib.byteCells]⟩⟩⟩, ho, ht, hout, by rw [hV]; simp [World.setCell], fun k hk hne => ?_, fun k hk => ?_⟩
    · rw [hV, heap_setCell_other _ _ _ _ (by simpa using hne)]
      exact Below.heap_alloc _ _ _ hk
    · rcases hk with rfl | ⟨u, hu, hk⟩
      · exact Or.inl rfl
      · rw [cell_of hb'] at hu
        obtain rfl : Value.slice (some ⟨W.heap.size, 0, none⟩) 0 cs.size = u := by simpa using hu
        right
        have : W.heap.size = k := by simpa [Value.ownBlock] using hk
        omega
  have HF := Lib.hid hfin
  have HSA := Lib.hid (set_alloc W b 1 (.slice (some ⟨W.heap.size, 0, none⟩) 0 cs.size) (.cells cs 5) hlt)
  clear hw hfin hle hmax hrun h h2 hj0 hj1
  go_enter Tryz.func131, Tryz.ntmps131
  go_wp2_with fail
  go_region
  all_goals (go_wp2_with fail; go_end0; first | exact ⟨rfl, HF.out _ rfl rfl rfl rfl⟩ | exact ⟨rfl, HF.out _ HSA.out rfl rfl rfl⟩)
set_option maxRecDepth 100000 in
set_option maxHeartbeats 2000000 in
theorem bgrow_c {T : TypeId} (hT : Hold T) (b B n : Nat) (x : Value) (W : World) (h : W.heap[b]? = some (.cells #[.pointer none, .slice none 0 0, x] T (0, 0))) (hb : b < B) (hB : B ≤ W.heap.size) (hn : n ≤ 1000000000) (h0 : 0 < n) :
    Calls Tryz.prog 98 #[.pointer (some ⟨b, 0, none⟩), .int .i64 n] W fun e W' => e = .returned (.tuple #[]) ∧ BdS T b B [] x W' ∧ Chg (fun k => k = b) (BdF b W') W W' := by
  have HC := Lib.hid (check_c hT b _ _ _ W h (Or.inl rfl))
  have hi : (0 : Int) < (n : Int) := by omega
  have hi2 : ¬ (n : Int) < 0 := by omega
  have hw0 : IntKind.i64.wrap 0 = 0 := by rw [IntKind.wrap_i64]; rfl
  have HH := Lib.hid (fun (W1 : World) nq h1 h2 => grow_c hT b B n x (W1.drewN nq) h1 hb h2 hn)
  clear hn
  go_enter Tryz.func98, Tryz.ntmps98
  go_wp2_with (go_at_call 130; refine HC.out.mono ?_; rintro e W1 ⟨rfl, h1, h2, h3, h4, h5, h6⟩; have c1 : W1.cell? ⟨b, 1, none⟩ = some (.slice none 0 0) := cell_of h1 1; have H1 := Lib.hid (And.intro h1 (And.intro h2 (And.intro h3 (And.intro h4 (And.intro h5 h6))))); clear h1 h2 h3 h4 h5 h6)
  go_quiet (fail)
  go_wp2_with fail
  refine (HH.out W1 nq H1.out.1 (by have := H1.out.2.2.1; show B ≤ W1.heap.size; omega)).mono ?_
  rintro e W2 ⟨rfl, h2, h3⟩
  have H2 := Lib.hid (And.intro h2 (show Chg (fun k => k = b) (BdF b W2) W W2 from ⟨h3.os.trans H1.out.2.2.2.1, h3.tape.trans H1.out.2.2.2.2.1, h3.output.trans H1.out.2.2.2.2.2, by have := h3.size; have e := H1.out.2.2.1; have e2 : (W1.drewN nq).heap.size = W1.heap.size := rfl; omega, fun k hk hn => (h3.block k (by have e := H1.out.2.2.1; show k < W1.heap.size; omega) hn).trans (H1.out.2.1 k hn), fun k hk => (h3.new k hk).imp id (fun h => by have e := H1.out.2.2.1; have e2 : (W1.drewN nq).heap.size = W1.heap.size := rfl; omega)⟩))
  clear h2 h3
  go_wp2_with fail
  go_end0
  exact ⟨rfl, H2.out⟩
end Go.Proofs.YtceagpnonkmfdaaGreat
end
section
namespace Go.Proofs.YtceagpnonkmfdaaGreat
open Go.RowKit

def addAt (z : List Nat) (p n : Nat) : List Nat := z.set p (z.getD p 0 + n)
theorem addAt_get {z : List Nat} {p : Nat} (h : p < z.length) (n : Nat) : z.set p (z[p]'h + n) = addAt z p n := by simp [addAt, h]
def suStep : List Nat × List Nat → Ev → List Nat × List Nat
  | (z, o), .bgn => (z ++ [0], z.length :: o)
  | (z, o), .txt t => (addAt z (o.headD 0) (encT t).length, o)
  | (z, o), .fin => (addAt z (o.tail.headD 0) ((hd 192 (z.getD (o.headD 0) 0)).length + z.getD (o.headD 0) 0), o.tail)
def suOk : List Nat × List Nat → Ev → Prop
  | (z, o), .bgn => z.length < 1000000 ∧ o.length < 1000000
  | (z, o), .txt t => ∃ p q, o = p :: q ∧ p < z.length ∧ z.getD p 0 + (encT t).length < 4611686018427387904 ∧ q.length < 1000000
  | (z, o), .fin => ∃ p p' q, o = p :: p' :: q ∧ p < z.length ∧ p' < z.length ∧ z.getD p' 0 + ((hd 192 (z.getD p 0)).length + z.getD p 0) < 4611686018427387904 ∧ q.length < 900000
def suK (b B : Nat) : Sink (List Nat × List Nat) 94 96 97 (.pointer (some ⟨b, 0, none⟩)) where
  St s W := SuS b B s W ∧ B ≤ W.heap.size
  ft := SuF b
  ok := suOk
  step := suStep
  lt s W k h hf := h.1.ftlt k hf
  kept s W W' h hk hs := ⟨⟨(h.1.kept hk).1, Nat.le_trans h.2 hs⟩, (h.1.kept hk).2⟩
  eb := enters_of Tryz.func94 (by kernel_rfl) rfl
  et := enters_of Tryz.func96 (by kernel_rfl) rfl
  ee := enters_of Tryz.func97 (by kernel_rfl) rfl
  cb s W h ho := by
    obtain ⟨z, o⟩ := s
    exact (sbegin_c h.1 ho.1 ho.2 h.2).mono fun e W' ⟨h1, h2, h3⟩ => ⟨h1, ⟨h2, Nat.le_trans h.2 h3.size⟩, h3⟩
  ct s t W h ho := by
    obtain ⟨z, o⟩ := s
    obtain ⟨p, q, rfl, hp, hn, hq⟩ := ho
    have e : z.getD p 0 = z[p]'hp := by simp [hp]
    refine (stext_c h.1 hp t (by rw [← e]; exact hn) hq).mono fun e W' ⟨h1, h2, h3⟩ => ⟨h1, ⟨?_, Nat.le_trans h.2 h3.size⟩, h3⟩
    rw [addAt_get] at h2
    exact h2
  ce s W h ho := by
    obtain ⟨z, o⟩ := s
    obtain ⟨p, p', q, rfl, hp, hp', hn, hq⟩ := ho
    have e : z.getD p 0 = z[p]'hp := by simp [hp]
    have e' : z.getD p' 0 = z[p']'hp' := by simp [hp']
    rw [e, e'] at hn
    refine (send_c h.1 hp hp' hn hq).mono fun e2 W' ⟨h1, h2, h3⟩ => ⟨h1, ⟨?_, Nat.le_trans h.2 h3.size⟩, h3⟩
    rw [addAt_get, ← e] at h2
    exact h2
def wrStep : List UInt8 × List Nat → Ev → List UInt8 × List Nat
  | (o, z), .bgn => (o ++ hd 192 (z.headD 0), z.tail)
  | (o, z), .txt t => (o ++ encT t, z)
  | s, .fin => s
def wrOk : List UInt8 × List Nat → Ev → Prop
  | (o, z), .bgn => ∃ n q, z = n :: q ∧ o.length + (hd 192 n).length ≤ 100000000000 ∧ n < 1000000000000
  | (o, _), .txt t => o.length + (encT t).length ≤ 100000000000
  | _, .fin => True
def wrK (b B gz : Nat) : Sink (List UInt8 × List Nat) 99 100 101 (.pointer (some ⟨b, 0, none⟩)) where
  St s W := WrS b B gz s W ∧ B ≤ W.heap.size
  ft := WrF b gz
  ok := wrOk
  step := wrStep
  lt s W k h hf := h.1.ftlt k hf
  kept s W W' h hk hs := ⟨⟨(h.1.kept hk hs).1, Nat.le_trans h.2 hs⟩, (h.1.kept hk hs).2⟩
  eb := enters_of Tryz.func99 (by kernel_rfl) rfl
  et := enters_of Tryz.func100 (by kernel_rfl) rfl
  ee := enters_of Tryz.func101 (by kernel_rfl) rfl
  cb s W h ho := by
    obtain ⟨o, z⟩ := s
    obtain ⟨n, q, rfl, hn, hnn⟩ := ho
    exact (wrbegin_c h.1 hn hnn h.2).mono fun e W' ⟨h1, h2, h3⟩ => ⟨h1, ⟨h2, Nat.le_trans h.2 h3.size⟩, h3⟩
  ct s t W h ho := by
    obtain ⟨o, z⟩ := s
    exact (wrtext_c h.1 t ho h.2).mono fun e W' ⟨h1, h2, h3⟩ => ⟨h1, ⟨h2, Nat.le_trans h.2 h3.size⟩, h3⟩
  ce s W h _ := by
    obtain ⟨o, z⟩ := s
    exact (wrend_c h.1).mono fun e W' ⟨h1, h2, h3⟩ => ⟨h1, ⟨h2, Nat.le_trans h.2 h3.size⟩, h3⟩
def shStep : List UInt8 × List UInt8 → Ev → List UInt8 × List UInt8
  | (o, g), .bgn => (o ++ (g ++ [91]), [])
  | (o, g), .txt t => (o ++ (g ++ [34]) ++ hexL t ++ [34], [32])
  | (o, _), .fin => (o ++ [93], [32])
def shOk : List UInt8 × List UInt8 → Ev → Prop
  | (o, g), .bgn => g.length ≤ 1 ∧ o.length ≤ 100000000
  | (o, g), .txt t => g.length ≤ 1 ∧ o.length + 2 * t.length ≤ 100000000
  | (o, _), .fin => o.length ≤ 100000000
/-- The sizes of all lists, as they begin. -/
def Fo.szs : Fo → List Nat
  | .nil => []
  | .text _ r => r.szs
  | .list i r => i.enc.length :: i.szs ++ r.szs
theorem Fo.szs_len (f : Fo) : f.szs.length ≤ f.evs.length := by
  induction f with
  | nil => exact Nat.le_refl _
  | text s r ih => simp only [Fo.szs, Fo.evs, List.length_cons]; omega
  | list i r hi ih => simp only [Fo.szs, Fo.evs, List.length_cons, List.length_append, List.cons_append]; omega
theorem addAt_len (z : List Nat) (p n : Nat) : (addAt z p n).length = z.length := by simp [addAt]
theorem addAt_zero (z : List Nat) (p : Nat) : addAt z p 0 = z := by
  apply List.ext_getElem?
  intro i
  unfold addAt
  rw [List.getElem?_set]
  split
  · rename_i h
    subst h
    split
    · rename_i h; simp [h]
    · rename_i h; simp [h]
  · rfl
theorem addAt_app {z : List Nat} {p : Nat} (h : p < z.length) (n : Nat) (y : List Nat) : addAt (z ++ y) p n = addAt z p n ++ y := by
  unfold addAt
  rw [List.set_append_left _ _ h]
  simp [h, List.getElem?_append_left h]
theorem addAt_getD {z : List Nat} {p : Nat} (h : p < z.length) (n : Nat) : (addAt z p n).getD p 0 = z.getD p 0 + n := by
  unfold addAt
  simp [h]
theorem addAt_twice {z : List Nat} {p : Nat} (h : p < z.length) (n m : Nat) : addAt (addAt z p n) p m = addAt z p (n + m) := by
  have e := addAt_getD h n
  unfold addAt at e ⊢
  rw [e, List.set_set, Nat.add_assoc]
theorem addAt_last (z : List Nat) (n : Nat) : addAt (z ++ [0]) z.length n = z ++ [n] := by
  unfold addAt
  rw [List.set_append_right _ _ (Nat.le_refl _)]
  simp
theorem getD_app {a b : List Nat} {p : Nat} (h : p < a.length) : (a ++ b).getD p 0 = a.getD p 0 := by simp [List.getElem?_append_left h]
theorem su_run : ∀ (f : Fo) (z o : List Nat) (p : Nat), p < z.length → z.getD p 0 + f.enc.length < 4000000000000000000 → z.length + f.evs.length < 1000000 → o.length + f.evs.length < 900000 →
    goodE suStep suOk (z, p :: o) f.evs ∧ runE suStep (z, p :: o) f.evs = (addAt z p f.enc.length ++ f.szs, p :: o) := by
  intro f
  induction f with
  | nil => intro z o p _ _ _ _; exact ⟨trivial, by simp [Fo.evs, runE, Fo.enc, Fo.szs, addAt_zero]⟩
  | text t r ih =>
    intro z o p hp hb hz ho
    simp only [Fo.enc, Fo.evs, List.length_append, List.length_cons] at hb hz ho
    have h := ih (addAt z p (encT t).length) o p (by rw [addAt_len]; exact hp) (by rw [addAt_getD hp]; omega) (by rw [addAt_len]; omega) (by omega)
    refine ⟨⟨⟨p, o, rfl, hp, by omega, by omega⟩, h.1⟩, ?_⟩
    show runE suStep (addAt z p (encT t).length, p :: o) r.evs = _
    rw [h.2, addAt_twice hp]
    simp [Fo.enc, Fo.szs]
  | list i r hi ih =>
    intro z o p hp hb hz ho
    simp only [Fo.enc, Fo.evs, List.length_append, List.length_cons, List.cons_append] at hb hz ho
    have h1 := hi (z ++ [0]) (p :: o) z.length (by simp) (by simp; omega) (by simp; omega) (by simp; omega)
    rw [addAt_last] at h1
    have hs := Fo.szs_len i
    have h2 := ih (addAt z p ((hd 192 i.enc.length).length + i.enc.length) ++ [i.enc.length] ++ i.szs) o p (by simp [addAt_len]; omega)
      (by
        rw [List.append_assoc, getD_app (by rw [addAt_len]; exact hp), addAt_getD hp]; omega) (by simp [addAt_len]; omega) (by omega)
    have hst : suStep (z ++ [i.enc.length] ++ i.szs, z.length :: p :: o) .fin = (addAt z p ((hd 192 i.enc.length).length + i.enc.length) ++ [i.enc.length] ++ i.szs, p :: o) := by
      show (addAt (z ++ [i.enc.length] ++ i.szs) p ((hd 192 ((z ++ [i.enc.length] ++ i.szs).getD z.length 0)).length + (z ++ [i.enc.length] ++ i.szs).getD z.length 0), p :: o) = _
      have e : (z ++ [i.enc.length] ++ i.szs).getD z.length 0 = i.enc.length := by simp
      rw [e, List.append_assoc, addAt_app hp]
      simp
    have hev : (Fo.list i r).evs = [.bgn] ++ (i.evs ++ ([.fin] ++ r.evs)) := by simp [Fo.evs]
    rw [hev, goodE_app, goodE_app, goodE_app, runE_app, runE_app, runE_app]
    have e1 : runE suStep (z, p :: o) [.bgn] = (z ++ [0], z.length :: p :: o) := rfl
    have e2 : ∀ s, runE suStep s [.fin] = suStep s .fin := fun _ => rfl
    rw [e1, h1.2, e2, hst]
    refine ⟨⟨⟨⟨by omega, by simp; omega⟩, trivial⟩, h1.1, ⟨⟨z.length, p, o, rfl, by simp, by simp; omega, ?_, by omega⟩, trivial⟩, h2.1⟩, ?_⟩
    · have e : (z ++ [i.enc.length] ++ i.szs).getD z.length 0 = i.enc.length := by simp
      have e' : (z ++ [i.enc.length] ++ i.szs).getD p 0 = z.getD p 0 := by rw [List.append_assoc, getD_app hp]
      rw [e, e']
      omega
    · rw [h2.2, List.append_assoc, addAt_app (by rw [addAt_len]; exact hp), addAt_twice hp]
      simp [Fo.enc, Fo.szs, Nat.add_assoc]
theorem wr_run : ∀ (f : Fo) (out : List UInt8) (rest : List Nat), out.length + f.enc.length ≤ 90000000000 →
    goodE wrStep wrOk (out, f.szs ++ rest) f.evs ∧ runE wrStep (out, f.szs ++ rest) f.evs = (out ++ f.enc, rest) := by
  intro f
  induction f with
  | nil => intro out rest _; exact ⟨trivial, by simp [Fo.evs, runE, Fo.enc, Fo.szs]⟩
  | text t r ih =>
    intro out rest hb
    simp only [Fo.enc, List.length_append] at hb
    have h := ih (out ++ encT t) rest (by simp; omega)
    refine ⟨⟨by show _ ≤ _; omega, h.1⟩, ?_⟩
    show runE wrStep (out ++ encT t, r.szs ++ rest) r.evs = _
    rw [h.2]
    simp [Fo.enc]
  | list i r hi ih =>
    intro out rest hb
    simp only [Fo.enc, List.length_append] at hb
    have h1 := hi (out ++ hd 192 i.enc.length) (r.szs ++ rest) (by simp; omega)
    have h2 := ih (out ++ hd 192 i.enc.length ++ i.enc) rest (by simp; omega)
    have hev : (Fo.list i r).evs = [.bgn] ++ (i.evs ++ ([.fin] ++ r.evs)) := by simp [Fo.evs]
    have e0 : (Fo.list i r).szs ++ rest = i.enc.length :: (i.szs ++ (r.szs ++ rest)) := by simp [Fo.szs]
    rw [hev, e0, goodE_app, goodE_app, goodE_app, runE_app, runE_app, runE_app]
    have e1 : runE wrStep (out, i.enc.length :: (i.szs ++ (r.szs ++ rest))) [.bgn] = (out ++ hd 192 i.enc.length, i.szs ++ (r.szs ++ rest)) := rfl
    have e2 : ∀ s, runE wrStep s [.fin] = s := fun _ => rfl
    rw [e1, h1.2, e2]
    refine ⟨⟨⟨⟨_, _, rfl, by omega, by omega⟩, trivial⟩, h1.1, ⟨trivial, trivial⟩, h2.1⟩, ?_⟩
    rw [h2.2]
    simp [Fo.enc]
theorem sh_run : ∀ (f : Fo) (out gap : List UInt8), gap.length ≤ 1 → out.length + (f.sho gap).length ≤ 90000000 →
    goodE shStep shOk (out, gap) f.evs ∧ ∃ g', g'.length ≤ 1 ∧ runE shStep (out, gap) f.evs = (out ++ f.sho gap, g') := by
  intro f
  induction f with
  | nil => intro out gap hg _; exact ⟨trivial, gap, hg, by simp [Fo.evs, runE, Fo.sho]⟩
  | text t r ih =>
    intro out gap hg hb
    simp only [Fo.sho, List.length_append, hexL_len, List.length_singleton] at hb
    have h := ih (out ++ (gap ++ [34]) ++ hexL t ++ [34]) [32] (by simp) (by simp [hexL_len]; omega)
    obtain ⟨h1, g', h2, h3⟩ := h
    refine ⟨⟨⟨hg, by omega⟩, h1⟩, g', h2, ?_⟩
    show runE shStep (out ++ (gap ++ [34]) ++ hexL t ++ [34], [32]) r.evs = _
    rw [h3]
    simp [Fo.sho]
  | list i r hi ih =>
    intro out gap hg hb
    simp only [Fo.sho, List.length_append, List.length_singleton] at hb
    obtain ⟨h1, g1, h2, h3⟩ := hi (out ++ (gap ++ [91])) [] (by simp) (by simp; omega)
    obtain ⟨h4, g2, h5, h6⟩ := ih (out ++ (gap ++ [91]) ++ i.sho [] ++ [93]) [32] (by simp) (by simp; omega)
    have hev : (Fo.list i r).evs = [.bgn] ++ (i.evs ++ ([.fin] ++ r.evs)) := by simp [Fo.evs]
    rw [hev, goodE_app, goodE_app, goodE_app, runE_app, runE_app, runE_app]
    have e1 : runE shStep (out, gap) [.bgn] = (out ++ (gap ++ [91]), []) := rfl
    have e2 : ∀ o g, runE shStep (o, g) [.fin] = (o ++ [93], [32]) := fun _ _ => rfl
    rw [e1, h3, e2]
    refine ⟨⟨⟨⟨hg, by omega⟩, trivial⟩, h1, ⟨by show _ ≤ _; simp; omega, trivial⟩, h4⟩, g2, h5, ?_⟩
    rw [h6]
    simp [Fo.sho]
theorem It.evs_fo (x : It) : x.evs = (x.fo .nil).evs := by cases x <;> simp [It.evs, It.fo, Fo.evs]
theorem It.enc_fo (x : It) : x.enc = (x.fo .nil).enc := by cases x <;> simp [It.enc, It.fo, Fo.enc]
theorem hd_ne (k n : Nat) : hd k n ≠ [] := by unfold hd; split <;> simp
theorem It.enc_ne (x : It) : x.enc ≠ [] := by
  cases x with
  | text s =>
    show encT s ≠ []
    unfold encT hdT
    split
    · rename_i h
      cases s with
      | nil => simp [bareL] at h
      | cons b r => simp
    · simp [hd_ne]
  | list i => simp [It.enc, hd_ne]
/-- What is shown of an item. -/
def It.sho (x : It) : List UInt8 := (x.fo .nil).sho []
theorem It.sho_ne (x : It) : x.sho ≠ [] := by cases x <;> simp [It.sho, It.fo, Fo.sho]
theorem SuS.ftge {b B : Nat} {s : List Nat × List Nat} {W : World} (h : SuS b B s W) : ∀ k, SuF b W k → k = b ∨ B ≤ k := by
  intro k hk
  obtain ⟨v1, v2, h1, h2, h3, _⟩ := h.row
  rcases hk with rfl | ⟨j, v, hj, hc, hv⟩
  · exact Or.inl rfl
  · rw [cell_of h1] at hc
    rcases j with _ | _ | j
    · obtain rfl : v1 = v := by simpa using hc
      exact Or.inr (h2.lt k hv).1
    · obtain rfl : v2 = v := by simpa using hc
      exact Or.inr (h3.lt k hv).1
    · omega
end Go.Proofs.YtceagpnonkmfdaaGreat
end
section
namespace Go.Proofs.YtceagpnonkmfdaaGreat
open Go.RowKit

end Go.Proofs.YtceagpnonkmfdaaGreat
end
section
namespace Go.Proofs.YtceagpnonkmfdaaGreat
open Go.RowKit

theorem Chg.toBelow {F F' : Nat → Prop} {B : Nat} {a b : World} (h : Chg F F' a b) (hB : B ≤ a.heap.size) (hf : ∀ k, F k → B ≤ k) : Below B a b :=
  ⟨h.os, h.tape, h.output, h.size, fun k hk => h.block k (by omega) (fun hh => by have := hf k hh; omega)⟩
set_option maxRecDepth 100000 in
set_option maxHeartbeats 4000000 in
theorem encode_c (S : Nat → Prop) (x : It) (v : Value) (w : World) (hS : ∀ k, S k → k < w.heap.size) (hv : ItV S x v w) (hn : x.evs.length < 800000) (hl : x.enc.length ≤ 800000000) :
    Calls Tryz.prog 67 #[v] w fun e w' => e = .returned (.string (str x.enc)) ∧ Below w.heap.size w w' := by
  obtain ⟨xb, xt, xa, xn, xc, rfl⟩ := hv.form
  have hm : ∀ (fn : Fn) (first cap : Array Value) (w : World), (Instr.makeFunc fn first cap).run Tryz.prog w = .ok (.func fn first cap) w := fun _ _ _ _ => rfl
  obtain ⟨W1, hW1⟩ : ∃ W1, W1 = (w.alloc (.cells #[.bool xb, .string xt, .slice xa xn xc] 108)).alloc (.cells #[.slice none 0 0, .slice none 0 0] 180) := ⟨_, rfl⟩
  have hold : ∀ k, k < w.heap.size → W1.heap[k]? = w.heap[k]? := fun k hk => by rw [hW1, heap_alloc_get, if_neg (by simp; omega), heap_alloc_get, if_neg (by omega)]
  have hsz : W1.heap.size = w.heap.size + 2 := by rw [hW1]; simp
  have hrow : W1.heap[w.heap.size + 1]? = some (.cells #[.slice none 0 0, .slice none 0 0] 180 (0, 0)) := by rw [hW1]; exact heap_alloc2_new _ _ _
  have hbox : W1.heap[w.heap.size]? = some (.cells #[.bool xb, .string xt, .slice xa xn xc] 108 (0, 0)) := by rw [hW1]; exact heap_alloc2_old _ _ _
  have hb1 : Below w.heap.size w W1 := ⟨by rw [hW1]; rfl, by rw [hW1]; rfl, by rw [hW1]; rfl, by omega, hold⟩
  have hst : SuS (w.heap.size + 1) (w.heap.size + 2) ([], []) W1 := ⟨by omega, _, _, hrow, World.ownsRow_nil _ _ _ _, World.ownsRow_nil _ _ _ _, Or.inl rfl⟩
  have hf1 : ∀ k, SuF (w.heap.size + 1) W1 k → w.heap.size + 1 ≤ k := fun k hk => by rcases hst.ftge k hk with h | h <;> omega
  have HBg := Lib.hid (show Calls Tryz.prog 94 _ W1 fun e W' => e = .returned (.tuple #[]) ∧ SuS (w.heap.size + 1) (w.heap.size + 2) ([0], [0]) W' ∧ Below (w.heap.size + 1) W1 W' from (sbegin_c hst (by simp) (by simp) (by omega)).mono fun e W' ⟨h1, h2, h3⟩ => ⟨h1, h2, h3.toBelow (by omega) hf1⟩)
  have hrun := su_run (x.fo .nil) [0] [] 0 (by simp) (by rw [← x.enc_fo]; simp; omega) (by rw [← x.evs_fo]; simp; omega) (by rw [← x.evs_fo]; simp; omega)
  rw [← x.evs_fo, ← x.enc_fo] at hrun
  have hz : addAt [0] 0 x.enc.length ++ (x.fo .nil).szs = x.enc.length :: (x.fo .nil).szs := by simp [addAt]
  rw [hz] at hrun
  have HWa := Lib.hid (fun (V : World) (h1 : SuS (w.heap.size + 1) (w.heap.size + 2) ([0], [0]) V) (h2 : Below (w.heap.size + 1) W1 V) => show Calls Tryz.prog 95 #[.agg #[.bool xb, .string xt, .slice xa xn xc], .func (.func 94) #[.pointer (some ⟨w.heap.size + 1, 0, none⟩)] #[], .func (.func 96) #[.pointer (some ⟨w.heap.size + 1, 0, none⟩)] #[], .func (.func 97) #[.pointer (some ⟨w.heap.size + 1, 0, none⟩)] #[]] V fun e W' => e = .returned (.tuple #[]) ∧ SuS (w.heap.size + 1) (w.heap.size + 2) (x.enc.length :: (x.fo .nil).szs, [0]) W' ∧ Below (w.heap.size + 1) V W' from by
    have hsV := h2.size
    have hf : ∀ k, SuF (w.heap.size + 1) V k → w.heap.size + 1 ≤ k := fun k hk => by rcases h1.ftge k hk with h | h <;> omega
    refine (walk_c (K := suK (w.heap.size + 1) (w.heap.size + 2)) (S := S) x _ V ([0], [0]) (fun k hk => ⟨by have := hS k hk; omega, fun hh => by have := hS k hk; have := hf k hh; omega⟩) (hv.kept fun k hk => (h2.block k (by have := hS k hk; omega)).trans (hold k (hS k hk))) ⟨h1, by omega⟩ hrun.1 (by omega)).mono fun e W' ⟨g1, g2, g3⟩ => ⟨g1, ?_, g3.toBelow (by omega) hf⟩
    have e : runE (suK (w.heap.size + 1) (w.heap.size + 2)).step ([0], [0]) x.evs = (x.enc.length :: (x.fo .nil).szs, [0]) := hrun.2
    rw [e] at g2
    exact g2.1)
  have HB1 := Lib.hid (And.intro hb1 (And.intro hbox (And.intro hsz hW1)))
  have HH := Lib.hid (And.intro hv (And.intro hS (And.intro hn hl)))
  clear hold hsz hrow hbox hb1 hst hf1 hrun hz hv hS hn hl
  go_enter Tryz.func67, Tryz.ntmps67
  go_wp2_with fail
  rw [← HB1.out.2.2.2]
  refine HBg.out.mono ?_
  rintro e W2 ⟨rfl, h2, h3⟩
  have hbx2 := (h3.block _ (by omega)).trans HB1.out.2.1
  obtain ⟨⟨c0, c1, c2⟩, _⟩ := cells3 hbx2
  have H2 := Lib.hid (And.intro h2 (And.intro h3 hbx2))
  clear h2 h3 hbx2
  go_wp2_with fail
  refine (HWa.out _ H2.out.1 H2.out.2.1).mono ?_
  rintro e W3 ⟨rfl, h2, h3⟩
  have hbx3 := (h3.block _ (by omega)).trans H2.out.2.2
  clear c0 c1 c2
  obtain ⟨v1, v2, r1, r2, r3, r4⟩ := h2.row
  obtain ⟨k, hk⟩ : ∃ k, (x.fo .nil).szs.length = k := ⟨_, rfl⟩
  have r2' : W3.ownsRow (w.heap.size + 2) 3 1 v1 (k + 1) (ints (x.enc.length :: (x.fo .nil).szs)) := by rw [← hk]; exact r2
  obtain ⟨g, cap, rfl, hg1, hg2, hg3⟩ := own_form r2'
  have d0 : W3.cell? ⟨w.heap.size + 1, 0, none⟩ = some (.slice (some ⟨g, 0, none⟩) (k + 1) cap) := cell_of r1 0
  have d1 : W3.cell? ⟨g, 0, none⟩ = some (.int .i64 (x.enc.length : Nat)) := own_cell r2' rfl 0 _ (by simp [ints])
  have d2 : ∀ j (h : j < (x.fo .nil).szs.length), W3.cell? ⟨g, 1 + j, none⟩ = some (.int .i64 (((x.fo .nil).szs[j]'h : Nat) : Int)) := fun j hj => by
    rw [Nat.add_comm]
    exact own_cell r2' rfl (j + 1) _ (by simp [ints, hj])
  have hw3 : w.heap.size + 2 ≤ W3.heap.size := by have := H2.out.2.1.size; have := HB1.out.2.2.1; have := h3.size; omega
  have hsl := slice_one_int g 0 k cap
  obtain ⟨o2, ho2⟩ : ∃ o2, (if cap = 1 then 0 else 0 + 1) = o2 := ⟨_, rfl⟩
  rw [ho2] at hsl
  have hbw := HB1.out.1.trans ((H2.out.2.1.trans (h3.mono (B' := w.heap.size + 1) (by omega))).mono (by omega))
  have H3 := Lib.hid (And.intro hbw (And.intro hbx3 (And.intro hw3 (And.intro hk (And.intro hg1 (And.intro hg2 (And.intro hg3 (And.intro ho2 d2))))))))
  obtain ⟨W4, hW4⟩ : ∃ W4, W4 = W3.alloc (.cells #[.pointer none, .slice none 0 0, .slice (some ⟨g, o2, none⟩) k (cap - 1)] 187) := ⟨_, rfl⟩
  have hold : ∀ j, j < W3.heap.size → W4.heap[j]? = W3.heap[j]? := fun j hj => by rw [hW4]; exact Below.heap_alloc _ _ _ hj
  have e0 := (World.cell?_of_block (a := ⟨w.heap.size + 1, 0, none⟩) (hold (w.heap.size + 1) (by omega))).trans d0
  have e1 := (World.cell?_of_block (a := ⟨g, 0, none⟩) (hold g hg2)).trans d1
  have hnew : W4.heap[W3.heap.size]? = some (.cells #[.pointer none, .slice none 0 0, .slice (some ⟨g, o2, none⟩) k (cap - 1)] 187 (0, 0)) := by rw [hW4]; exact heap_alloc_new _ _
  have hs4 : W4.heap.size = W3.heap.size + 1 := by rw [hW4]; simp
  have HGr := Lib.hid (bgrow_c (Or.inl rfl) W3.heap.size (W3.heap.size + 1) x.enc.length _ W4 hnew (by omega) (by omega) (by have := HH.out.2.2.2; omega) (List.length_pos_iff.2 x.enc_ne))
  have hb4 : Below W3.heap.size W3 W4 := ⟨by rw [hW4]; rfl, by rw [hW4]; rfl, by rw [hW4]; rfl, by omega, hold⟩
  have H4 := Lib.hid (And.intro hb4 (And.intro hs4 hW4))
  have hi0 : (1 : Int) ≤ (k : Int) + 1 := by omega
  have hi1 : (0 : Int) < (k : Int) + 1 := by omega
  rw [hW4] at e0 e1
  clear h2 h3 hbx3 r1 r2 r2' r3 r4 hk hg1 hg2 hg3 d1 d2 hw3 ho2 hbw hold hnew hs4 hb4 hW4 HBg HWa
  go_wp2_with fail
  rw [← H4.out.2.2]
  refine HGr.out.mono ?_
  rintro e W5 ⟨rfl, h5, h6⟩
  obtain ⟨p1, p2, p3, p4, p5, p6, p7, p8, p9⟩ := H3.out
  obtain ⟨q1, q2, _⟩ := H4.out
  have hk5 : ∀ j, j < W3.heap.size → W5.heap[j]? = W3.heap[j]? := fun j hj => (h6.block j (by omega) (by omega)).trans (q1.block j hj)
  have hs5 := h6.size
  have hb5 : Below w.heap.size w W5 := p1.trans ⟨h6.os.trans q1.os, h6.tape.trans q1.tape, h6.output.trans q1.output, by omega, fun j hj => hk5 j (by omega)⟩
  have hbx5 := (hk5 _ (by omega)).trans p2
  obtain ⟨⟨c0, c1, c2⟩, _⟩ := cells3 hbx5
  have hwr : WrS W3.heap.size (W3.heap.size + 1) g ([], (x.fo .nil).szs ++ []) W5 := by
    rw [List.append_nil]
    refine ⟨⟨by omega, by omega, by omega⟩, o2, cap - 1, by rw [p4]; exact h5, by show (x.fo .nil).szs.length ≤ _; omega, fun j hj => ?_⟩
    have hj' : j < (x.fo .nil).szs.length := hj
    rw [if_neg (by omega)] at p8
    have := (World.cell?_of_block (a := ⟨g, 1 + j, none⟩) (hk5 g p6)).trans (p9 j hj')
    rw [← p8]
    exact this
  have hrun := wr_run (x.fo .nil) [] [] (by rw [← x.enc_fo]; have := HH.out.2.2.2; simp; omega)
  rw [← x.evs_fo, ← x.enc_fo] at hrun
  have HW2 := Lib.hid (show Calls Tryz.prog 95 #[.agg #[.bool xb, .string xt, .slice xa xn xc], .func (.func 99) #[.pointer (some ⟨W3.heap.size, 0, none⟩)] #[], .func (.func 100) #[.pointer (some ⟨W3.heap.size, 0, none⟩)] #[], .func (.func 101) #[.pointer (some ⟨W3.heap.size, 0, none⟩)] #[]] W5 fun e W' => e = .returned (.tuple #[]) ∧ (∃ y, BdS 187 W3.heap.size (W3.heap.size + 1) x.enc y W') ∧ Below w.heap.size w W' from by
    have hfk : ∀ j, WrF W3.heap.size g W5 j → w.heap.size ≤ j := fun j hj => by
      rcases hj with hj | hj
      · have := (BdS.ftlt h5 j hj).2; omega
      · omega
    have hS := HH.out.2.1
    refine (walk_c (K := wrK W3.heap.size (W3.heap.size + 1) g) (S := S) x _ W5 ([], (x.fo .nil).szs ++ []) (fun j hj => ⟨by have := hS j hj; omega, fun hh => by have := hS j hj; have := hfk j hh; omega⟩) (HH.out.1.kept fun j hj => hb5.block j (hS j hj)) ⟨hwr, by omega⟩ hrun.1 (by have := HH.out.2.2.1; omega)).mono fun e W' ⟨g1, g2, g3⟩ => ⟨g1, ?_, hb5.trans (g3.toBelow (by omega) hfk)⟩
    have e : runE (wrK W3.heap.size (W3.heap.size + 1) g).step ([], (x.fo .nil).szs ++ []) x.evs = (x.enc, []) := hrun.2.trans (by simp)
    rw [e] at g2
    obtain ⟨o, c, g4, _⟩ := g2.1.bd
    exact ⟨_, g4⟩)
  have HL := Lib.hid (show x.enc.length ≤ 900000000 by have := HH.out.2.2.2; omega)
  have HX := Lib.hid (show w.heap.size ≤ W3.heap.size by omega)
  clear p1 p2 p3 p4 p5 p6 p7 p8 p9 q1 q2 hk5 hs5 hb5 hbx5 hwr hrun h5 h6 e0 e1 d0 hW1
  go_wp2_with fail
  refine HW2.out.mono ?_
  rintro e W6 ⟨rfl, ⟨y, h7⟩, h8⟩
  have H6 := Lib.hid (And.intro h7 h8)
  clear h7 h8 c0 c1 c2
  go_wp2_with fail
  refine (bstring_c H6.out.1 x.enc_ne HL.out).mono ?_
  rintro e W7 ⟨rfl, h9⟩
  have H7 := Lib.hid (H6.out.2.trans (h9.mono HX.out))
  clear h9
  go_wp2_with fail
  go_ret
  exact ⟨rfl, H7.out⟩
end Go.Proofs.YtceagpnonkmfdaaGreat
end
section
namespace Go.Proofs.YtceagpnonkmfdaaGreat
open Go.RowKit

theorem or_byte (m b : Nat) (hm : m < 72057594037927936) (hb : b < 256) : Go.bits .or .u64 ((m : Int) * 256) (b : Int) = ((m * 256 + b : Nat) : Int) := by
  have h := bits_or_u64_nat (m * 256) b (by omega) (by omega)
  rw [show ((m * 256 : Nat) : Int) = (m : Int) * 256 by simp] at h
  rw [h]
  have h2 := Nat.shiftLeft_add_eq_or_of_lt (i := 8) (b := b) (by omega) m
  rw [Nat.shiftLeft_eq] at h2
  rw [show m * 256 + b = m * 2 ^ 8 + b from rfl, h2]
theorem small_list_c (x v : Value) (w : World) : Calls Tryz.prog 110 #[.agg #[.bool true, x, v]] w fun e w' => e = .returned (.tuple #[.int .u64 0, .bool false]) ∧ Below w.heap.size w w' := by
  go_enter Tryz.func110, Tryz.ntmps110
  go_wp2_with fail
  exact bodyPost_ret (v := .tuple #[.int .u64 0, .bool false]) (by simp [results, Tryz.results110, go_sem]) rfl ⟨rfl, (Below.refl _ _).alloc (Nat.le_refl _) _⟩
theorem small_long_c (s : ByteArray) (v : Value) (h : 8 < s.size) (w : World) : Calls Tryz.prog 110 #[.agg #[.bool false, .string s, v]] w fun e w' => e = .returned (.tuple #[.int .u64 0, .bool false]) ∧ Below w.heap.size w w' := by
  have hi : (8 : Int) < (s.size : Int) := by omega
  go_enter Tryz.func110, Tryz.ntmps110
  go_wp2_with fail
  exact bodyPost_ret (v := .tuple #[.int .u64 0, .bool false]) (by simp [results, Tryz.results110, go_sem]) rfl ⟨rfl, (Below.refl _ _).alloc (Nat.le_refl _) _⟩
theorem small_zero_c (s : ByteArray) (v : Value) (h : s.size ≤ 8) (h0 : 0 < s.size) (hz : (s[0]'h0).toNat = 0) (w : World) : Calls Tryz.prog 110 #[.agg #[.bool false, .string s, v]] w fun e w' => e = .returned (.tuple #[.int .u64 0, .bool false]) ∧ Below w.heap.size w w' := by
  have hi : ¬ (8 : Int) < (s.size : Int) := by omega
  have hj : (0 : Int) < (s.size : Int) := by omega
  have hx : ∀ W, (Instr.index 9 (.string s) (.int .i64 0)).run Tryz.prog W = .ok (.int .u8 0) W := fun W => by
    rw [run_index_string W _ _ _ _ Tryz.underlying9, dif_pos ⟨by omega, by omega⟩]
    simp [hz]
  clear hz
  go_enter Tryz.func110, Tryz.ntmps110
  go_wp2_with fail
  exact bodyPost_ret (v := .tuple #[.int .u64 0, .bool false]) (by simp [results, Tryz.results110, go_sem]) rfl ⟨rfl, (Below.refl _ _).alloc (Nat.le_refl _) _⟩
set_option maxRecDepth 100000 in
set_option maxHeartbeats 2000000 in
theorem small_ok_c (s : List UInt8) (v : Value) (h : s.length ≤ 8) (hh : s.head? ≠ some 0) (w : World) : Calls Tryz.prog 110 #[.agg #[.bool false, .string (str s), v]] w fun e w' => e = .returned (.tuple #[.int .u64 (val s), .bool true]) ∧ Below w.heap.size w w' := by
  have hsz := str_size s
  have hi : ¬ (8 : Int) < ((str s).size : Int) := by omega
  have hx0 : 0 < (str s).size → ∃ z : Nat, z ≠ 0 ∧ z < 256 ∧ ∀ W, (Instr.index 9 (.string (str s)) (.int .i64 0)).run Tryz.prog W = .ok (.int .u8 (z : Nat)) W := by
    intro h0
    rcases s with _ | ⟨b, r⟩
    · simp [str_size] at h0
    · refine ⟨b.toNat, fun e => hh (by simp; exact UInt8.toNat_inj.1 (by simpa using e)), b.toNat_lt, fun W => ?_⟩
      rw [run_index_string W _ _ _ _ Tryz.underlying9, dif_pos ⟨by omega, by omega⟩]
      simp [str_get]
  have hx : ∀ k (hk : k < s.length) (W : World), (Instr.index 9 (.string (str s)) (.int .i64 (k : Nat))).run Tryz.prog W = .ok (.int .u8 ((s[k]'hk).toNat : Nat)) W := fun k hk W => by
    rw [run_index_string W _ _ _ _ Tryz.underlying9, dif_pos ⟨by omega, by omega⟩]
    simp [str_get]
  have HX := Lib.hid hx; clear hx
  have HV : ∀ k, k < s.length → ∃ b : Nat, b < 256 ∧ val (s.take k) < 256 ^ 7 ∧ val (s.take (k + 1)) = val (s.take k) * 256 + b ∧ ∀ W : World, (Instr.index 9 (.string (str s)) (.int .i64 (k : Nat))).run Tryz.prog W = .ok (.int .u8 (b : Nat)) W := fun k hk => by
    refine ⟨(s[k]'hk).toNat, (s[k]'hk).toNat_lt, ?_, ?_, HX.out k hk⟩
    · refine Nat.lt_of_lt_of_le (val_lt _) (Nat.pow_le_pow_right (by decide) ?_)
      rw [List.length_take]; omega
    · rw [List.take_succ_eq_append_getElem hk, val_snoc]
  replace HV := Lib.hid HV
  have HT := Lib.hid (show val (s.take s.length) = val s by rw [List.take_length])
  have H0 := Lib.hid (show val (s.take 0) = 0 from rfl)
  clear HX hh
  rw [← hsz] at HV HT h
  generalize str s = x at *
  have hsl := Lib.hid hsz
  clear hsz
  have loop : ∀ h0 : (0 < x.size) ∨ ¬ 0 < x.size, Calls Tryz.prog 110 #[.agg #[.bool false, .string x, v]] w fun e w' => e = .returned (.tuple #[.int .u64 (val s), .bool true]) ∧ Below w.heap.size w w' := by
    intro h0
    rcases h0 with h0 | h0
    · obtain ⟨z, hz0, hz1, hz⟩ := hx0 h0
      have hj : (0 : Int) < (x.size : Int) := by omega
      have hzz : ((z : Int) == 0) = false := by simpa using hz0
      go_enter Tryz.func110, Tryz.ntmps110
      go_wp2_with fail
      clear hx0
      obtain ⟨w1, hw1⟩ : ∃ w1, w1 = w.alloc (.cells #[.bool false, .string x, v] 108) := ⟨_, rfl⟩
      have hc1 : w1.cell? ⟨w.heap.size, 1, none⟩ = some (.string x) := by rw [hw1]; exact cell_of (heap_alloc_new w (.cells #[.bool false, .string x, v] 108)) 1
      have HB := Lib.hid (show Below w.heap.size w w1 from by rw [hw1]; exact (Below.refl w.heap.size w).alloc (Nat.le_refl _) _)
      rw [← hw1]
      clear hw1
      go_loopw [4, 29] (fun a i wr => ∃ k : Nat, a = .int .u64 (val (s.take k) : Nat) ∧ i = .int .i64 k ∧ k ≤ x.size ∧ wr = w1) (fun _ i _ => x.size - (intOf i).toNat)
      case atStart => exact ⟨0, by rw [H0.out]; rfl, rfl, by omega, rfl⟩
      case round =>
        obtain ⟨k, rfl, rfl, hk, rfl⟩ := hrel
        by_cases hlt : k < x.size
        · have hli : (k : Int) < (x.size : Int) := by omega
          obtain ⟨b, hb, hv, hn, hix⟩ := HV.out k (by have := hsl.out; omega)
          have HN := Lib.hid hn; clear hn
          generalize hm : val (s.take k) = m at *
          go_wp2_with fail
          refine ⟨⟨k + 1, ?_, by simp, by omega, trivial⟩, by simp [intOf]; omega⟩
          rw [HN.out, or_byte m b (by simpa using hv) hb]
        · have hli : ¬ (k : Int) < (x.size : Int) := by omega
          obtain rfl : k = x.size := by omega
          rw [HT.out]
          go_wp2_with fail
          exact bodyPost_ret (v := .tuple #[.int .u64 (val s : Nat), .bool true]) (by simp [results, Tryz.results110, go_sem]) rfl ⟨rfl, HB.out⟩
    · have hj : ¬ (0 : Int) < (x.size : Int) := by omega
      go_enter Tryz.func110, Tryz.ntmps110
      go_wp2_with fail
      clear hx0
      obtain ⟨w1, hw1⟩ : ∃ w1, w1 = w.alloc (.cells #[.bool false, .string x, v] 108) := ⟨_, rfl⟩
      have hc1 : w1.cell? ⟨w.heap.size, 1, none⟩ = some (.string x) := by rw [hw1]; exact cell_of (heap_alloc_new w (.cells #[.bool false, .string x, v] 108)) 1
      have HB := Lib.hid (show Below w.heap.size w w1 from by rw [hw1]; exact (Below.refl w.heap.size w).alloc (Nat.le_refl _) _)
      rw [← hw1]
      clear hw1
      go_loopw [4, 29] (fun a i wr => ∃ k : Nat, a = .int .u64 (val (s.take k) : Nat) ∧ i = .int .i64 k ∧ k ≤ x.size ∧ wr = w1) (fun _ i _ => x.size - (intOf i).toNat)
      case atStart => exact ⟨0, by rw [H0.out]; rfl, rfl, by omega, rfl⟩
      case round =>
        obtain ⟨k, rfl, rfl, hk, rfl⟩ := hrel
        by_cases hlt : k < x.size
        · omega
        · have hli : ¬ (k : Int) < (x.size : Int) := by omega
          obtain rfl : k = x.size := by omega
          rw [HT.out]
          go_wp2_with fail
          exact bodyPost_ret (v := .tuple #[.int .u64 (val s : Nat), .bool true]) (by simp [results, Tryz.results110, go_sem]) rfl ⟨rfl, HB.out⟩
  exact loop (Classical.em _)
end Go.Proofs.YtceagpnonkmfdaaGreat
end
