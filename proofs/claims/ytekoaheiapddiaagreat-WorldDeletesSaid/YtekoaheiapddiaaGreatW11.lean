/- Merged: Hc, Hd, He, Hf. -/
import Derived.Test.YtekoaheiapddiaaGreatW10
import Derived.Deep.AppendLies
section
namespace Go.Proofs.YtekoaheiapddiaaGreat.Dz.Wo
open Go.RowKit Go.Maps Mp

/-- What lies in the heap of a world: the newest change first; each one's boxes begin at qs; ids: the maps of slots. -/
structure Sx where
  s : Ps
  bs : List Bk
  qs : List Nat
  ids : List Nat
  mo : Nat
  sv : Value
def Sx.ft (x : Sx) (b k : Nat) : Prop := k = b ∨ k = x.mo ∨ k ∈ x.ids ∨ x.sv.ownBlock = some k ∨ ∃ q ∈ x.qs, q ≤ k ∧ k < q + 5
def worldC (mo : Nat) (sv fv : Value) : Array Value := #[.map (some mo), sv, fv]
abbrev worldO (mo : Nat) (sv fv : Value) : Obj := .cells (worldC mo sv fv) 150 (0, 0)
structure WAt (x : Sx) (b : Nat) (fv : Value) (n : Nat) (W : World) : Prop where
  cell : W.heap[b]? = some (worldO x.mo x.sv fv)
  out : MapFn kitO x.mo n x.s.O W
  inn : ∀ m ∈ x.ids, MapFn kitW m n (x.s.I m) W
  row : W.ownsRow 0 1 1 x.sv x.bs.length (List.zipWith bkV x.bs x.qs).reverse
  len : x.qs.length = x.bs.length
  few : x.bs.length ≤ n
  clo : ∀ (i : Nat) (c : Bk) (q : Nat), x.bs[i]? = some c → x.qs[i]? = some q → BkAt x.mo c q W ∧ q + 5 ≤ W.heap.size
  live : ∀ m, Live x.s x.bs m → m ∈ x.ids
  sep : x.mo ∉ x.ids
  apart : ∀ q ∈ x.qs, ∀ j, q ≤ j → j < q + 5 → j ≠ b ∧ j ≠ x.mo ∧ j ∉ x.ids ∧ x.sv.ownBlock ≠ some j
section
variable {x : Sx} {b n : Nat} {fv : Value} {W V : World}
theorem WAt.row_lt (h : WAt x b fv n W) {k : Nat} (hk : x.sv.ownBlock = some k) : k < W.heap.size := (World.ownsRow.lt h.row k hk).2
theorem WAt.lt (h : WAt x b fv n W) {k : Nat} (hk : x.ft b k) : k < W.heap.size := by
  rcases hk with rfl | rfl | hk | hk | ⟨q, hq, h1, h2⟩
  · exact lt_of h.cell
  · exact h.out.lt
  · exact (h.inn k hk).lt
  · exact h.row_lt hk
  · obtain ⟨i, hi, e⟩ := List.getElem_of_mem hq
    have hi2 : i < x.bs.length := by rw [← h.len]; exact hi
    have := (h.clo i _ q (List.getElem?_eq_getElem hi2) (by rw [List.getElem?_eq_getElem hi, e])).2
    omega
theorem WAt.kept (h : WAt x b fv n W) (hk : ∀ k, x.ft b k → V.heap[k]? = W.heap[k]?) : WAt x b fv n V := by
  refine ⟨(hk b (Or.inl rfl)).trans h.cell, h.out.keep (hk _ (Or.inr (Or.inl rfl))), fun m hm => (h.inn m hm).keep (hk m (Or.inr (Or.inr (Or.inl hm)))), own_keep h.row fun k hk' => hk k (Or.inr (Or.inr (Or.inr (Or.inl hk')))), h.len, h.few, fun i c q h1 h2 => ?_, h.live, h.sep, h.apart⟩
  obtain ⟨h3, h4⟩ := h.clo i c q h1 h2
  have hft : ∀ j, q ≤ j → j < q + 5 → V.heap[j]? = W.heap[j]? := fun j h5 h6 => hk j (Or.inr (Or.inr (Or.inr (Or.inr ⟨q, List.mem_of_getElem? h2, h5, h6⟩))))
  refine ⟨h3.keep hft, ?_⟩
  have h7 := (hft (q + 4) (by omega) (by omega)).trans (Array.getElem?_eq_getElem (show q + 4 < W.heap.size by omega))
  have := lt_of h7
  omega
theorem WAt.ob (h : WAt x b fv n W) : Ob (WAt x b fv n) (x.ft b) W := ⟨h, fun _ hk => h.lt hk, fun _ hV => h.kept hV⟩
theorem WAt.mono {n' : Nat} (h : WAt x b fv n W) (hn : n ≤ n') : WAt x b fv n' W :=
  ⟨h.cell, h.out.mono hn, fun m hm => (h.inn m hm).mono hn, h.row, h.len, Nat.le_trans h.few hn, h.clo, h.live, h.sep, h.apart⟩
theorem WAt.cells (h : WAt x b fv n W) : (W.cell? ⟨b, 0, none⟩ = some (.map (some x.mo)) ∧ W.cell? ⟨b, 1, none⟩ = some x.sv ∧ W.cell? ⟨b, 2, none⟩ = some fv) ∧ ∀ j, W.frozen? ⟨b, j, none⟩ = false :=
  ⟨⟨cell_of h.cell 0, cell_of h.cell 1, cell_of h.cell 2⟩, fun j => free_of h.cell j⟩
theorem WAt.row_at (h : WAt x b fv n W) {g : Nat} (hg : x.sv.ownBlock = some g) : ∃ cur, W.heap[g]? = some (.cells cur 1 (0, 0)) := by
  rcases h.row.2 with ⟨hv, _⟩ | ⟨g', cap, cur, hv, _, hc, _⟩
  · rw [hv] at hg; cases hg
  · rw [hv] at hg; cases hg; exact ⟨cur, hc⟩
theorem WAt.row_ne (h : WAt x b fv n W) {g : Nat} (hg : x.sv.ownBlock = some g) : g ≠ b ∧ g ≠ x.mo ∧ g ∉ x.ids := by
  obtain ⟨cur, hc⟩ := h.row_at hg
  refine ⟨fun e => ?_, fun e => ?_, fun hm => ?_⟩
  · rw [e, h.cell] at hc; cases hc
  · obtain ⟨D, ⟨es, clock, hm, _⟩, _⟩ := h.out
    rw [e, hm] at hc; cases hc
  · obtain ⟨D, ⟨es, clock, hm, _⟩, _⟩ := h.inn g hm
    rw [hm] at hc; cases hc
theorem WAt.mo_ne (h : WAt x b fv n W) : x.mo ≠ b := fun e => by
  obtain ⟨D, ⟨es, clock, hm, _⟩, _⟩ := h.out
  rw [e, h.cell] at hm; cases hm
theorem WAt.id_ne (h : WAt x b fv n W) {m : Nat} (hm : m ∈ x.ids) : m ≠ b ∧ m ≠ x.mo := by
  refine ⟨fun e => ?_, fun e => h.sep (by rw [← e]; exact hm)⟩
  obtain ⟨D, ⟨es, clock, hm, _⟩, _⟩ := h.inn m hm
  rw [e, h.cell] at hm; cases hm
/-- One change more. -/
theorem WAt.push (h : WAt x b fv n W) {O : Nm → Option Ch} {I : Nat → Nat → Option Nat} {ids : List Nat} {c : Bk} {q : Nat} {v' : Value}
    (T : Chg (fun j => j = b ∨ j = x.mo ∨ j ∈ x.ids ∨ x.sv.ownBlock = some j) (fun j => j = b ∨ j = x.mo ∨ j ∈ ids ∨ v'.ownBlock = some j ∨ (q ≤ j ∧ j < q + 5)) W V)
    (hcell : V.heap[b]? = some (worldO x.mo v' fv)) (hout : MapFn kitO x.mo (n + 1) O V) (hinn : ∀ m ∈ ids, MapFn kitW m (n + 1) (I m) V) (hbk : BkAt x.mo c q V) (hq : W.heap.size ≤ q) (hq5 : q + 5 ≤ V.heap.size)
    (hrow : V.ownsRow 0 1 1 v' (x.bs.length + 1) ((List.zipWith bkV x.bs x.qs).reverse ++ [bkV c q])) (hg : ∀ g, v'.ownBlock = some g → x.sv.ownBlock = some g ∨ q + 5 ≤ g)
    (hids : ∀ m ∈ ids, m ∈ x.ids ∨ (W.heap.size ≤ m ∧ (m < q ∨ q + 5 ≤ m))) (hlive : ∀ m, Live ⟨O, I⟩ (c :: x.bs) m → m ∈ ids) :
    WAt ⟨⟨O, I⟩, c :: x.bs, q :: x.qs, ids, x.mo, v'⟩ b fv (n + 1) V ∧ Chg (x.ft b) (Sx.ft ⟨⟨O, I⟩, c :: x.bs, q :: x.qs, ids, x.mo, v'⟩ b) W V := by
  have hbl := lt_of h.cell
  have hml := h.out.lt
  have hbox : ∀ q' ∈ x.qs, ∀ j, q' ≤ j → j < q' + 5 → j < W.heap.size ∧ V.heap[j]? = W.heap[j]? := fun q' hq' j h1 h2 => by
    have hj : j < W.heap.size := h.lt (Or.inr (Or.inr (Or.inr (Or.inr ⟨q', hq', h1, h2⟩))))
    obtain ⟨a1, a2, a3, a4⟩ := h.apart q' hq' j h1 h2
    exact ⟨hj, T.block j hj (fun hF => by rcases hF with e | e | e | e; exact a1 e; exact a2 e; exact a3 e; exact a4 e)⟩
  refine ⟨⟨hcell, hout, hinn, ?_, by simp [h.len], Nat.succ_le_succ h.few, fun i c' q' h1 h2 => ?_, hlive, fun hm => ?_, fun q' hq' j h1 h2 => ?_⟩, ?_⟩
  · have e : (List.zipWith bkV (c :: x.bs) (q :: x.qs)).reverse = (List.zipWith bkV x.bs x.qs).reverse ++ [bkV c q] := by simp
    show V.ownsRow 0 1 1 v' (c :: x.bs).length _
    rw [e]; exact hrow
  · cases i with
    | zero => simp at h1 h2; rw [← h1, ← h2]; exact ⟨hbk, hq5⟩
    | succ i =>
      simp at h1 h2
      obtain ⟨h3, h4⟩ := h.clo i c' q' h1 h2
      exact ⟨h3.keep fun j h5 h6 => (hbox q' (List.mem_of_getElem? h2) j h5 h6).2, Nat.le_trans h4 T.size⟩
  · rcases hids _ hm with h1 | h1
    · exact h.sep h1
    · have : x.mo < W.heap.size := hml
      show False; exact absurd h1.1 (by simp only at h1 ⊢; omega)
  · simp only at hq' ⊢
    rcases List.mem_cons.1 hq' with rfl | hq'
    · refine ⟨by omega, by omega, fun hm => ?_, fun e => ?_⟩
      · rcases hids j hm with h3 | h3
        · have := (h.inn j h3).lt; omega
        · omega
      · rcases hg j e with h3 | h3
        · have := h.row_lt h3; omega
        · omega
    · have hj := (hbox q' hq' j h1 h2).1
      obtain ⟨a1, a2, a3, a4⟩ := h.apart q' hq' j h1 h2
      refine ⟨a1, a2, fun hm => ?_, fun e => ?_⟩
      · rcases hids j hm with h3 | h3
        · exact a3 h3
        · omega
      · rcases hg j e with h3 | h3
        · exact a4 h3
        · omega
  · refine ⟨T.os, T.tape, T.output, T.size, fun k hk hn => T.block k hk fun hF => hn ?_, fun k hk => ?_⟩
    · rcases hF with e | e | e | e
      · exact Or.inl e
      · exact Or.inr (Or.inl e)
      · exact Or.inr (Or.inr (Or.inl e))
      · exact Or.inr (Or.inr (Or.inr (Or.inl e)))
    · rcases hk with e | e | e | e | ⟨q', hq', e1, e2⟩
      · exact Or.inl (Or.inl e)
      · exact Or.inl (Or.inr (Or.inl e))
      · rcases hids k e with h3 | h3
        · exact Or.inl (Or.inr (Or.inr (Or.inl h3)))
        · exact Or.inr h3.1
      · rcases hg k e with h3 | h3
        · exact Or.inl (Or.inr (Or.inr (Or.inr (Or.inl h3))))
        · exact Or.inr (by omega)
      · rcases List.mem_cons.1 hq' with rfl | hq'
        · exact Or.inr (by omega)
        · exact Or.inl (Or.inr (Or.inr (Or.inr (Or.inr ⟨q', hq', e1, e2⟩))))
end
end Go.Proofs.YtekoaheiapddiaaGreat.Dz.Wo
end
section
namespace Go.Proofs.YtekoaheiapddiaaGreat.Dz.Wo
open Go.RowKit Go.Maps Mp

theorem infoFn : (Tryz.prog.info? 1).map (fun i => (i.zero, i.size, i.bytes)) = some (some .nilFunc, 1, 8) := by kernel_rfl
theorem Live.more {s : Ps} {bs : List Bk} {a : Nm} {v : Ch} {m : Nat} (h : Live ⟨upf s.O a (some v), s.I⟩ (.o a (s.O a) :: bs) m) : v.sl = some m ∨ Live s bs m := by
  rcases h with ⟨k, y, h1, h2⟩ | ⟨c, hc, h2⟩
  · simp only at h1
    by_cases e : k = a
    · rw [e, upf_same] at h1; cases h1; exact Or.inl h2
    · rw [upf_other _ _ e] at h1; exact Or.inr (Or.inl ⟨k, y, h1, h2⟩)
  · rcases List.mem_cons.1 hc with rfl | hc
    · obtain ⟨y, h3, h4⟩ := h2
      exact Or.inr (Or.inl ⟨a, y, h3, h4⟩)
    · exact Or.inr (Or.inr ⟨c, hc, h2⟩)
theorem chgWorld {W : World} {b : Nat} {mo : Nat} {sv fv v' : Value} (h : W.heap[b]? = some (worldO mo sv fv)) : (W.setCell ⟨b, 1, none⟩ v').heap[b]? = some (worldO mo v' fv) := by
  have := heap_setCell_same W b 1 _ _ v' h
  have e : (worldC mo sv fv).setIfInBounds 1 v' = worldC mo v' fv := rfl
  rw [e] at this; exact this
/-- The set's end. -/
theorem pushed {x : Sx} {b n : Nat} {fv : Value} {W V7 V8 V9 V10 : World} (h : WAt x b fv n W) {a : Nm} {v : Ch} (hv : ∀ m, v.sl = some m → m ∈ x.ids) (hB : Below W.heap.size W V7) (h7 : WAt x b fv n V7) {q : Nat} (hbk : BoxO x.mo a (x.s.O a) q V8) (hmap : MapFn kitO x.mo (n + 1) (upf x.s.O a (some v)) V8)
    (hc : Chg (fun j => j = x.mo) (fun j => j = x.mo ∨ (q ≤ j ∧ j < q + 5)) V7 V8) (hq : q = V7.heap.size) (hq5 : q + 5 ≤ V8.heap.size) (j10 : V10.heap[b]? = some (worldO x.mo x.sv fv)) {z8 : Nat} (s9 : V9.heap.size = z8 + 1) (B9 : Below z8 V8 V9) (hz8 : z8 = V8.heap.size) {g cap : Nat}
    (r10 : V10.ownsRow 0 1 1 (.slice (some ⟨g, 0, none⟩) (x.bs.length + 1) cap) (x.bs.length + 1) ((List.zipWith bkV x.bs x.qs).reverse ++ [bkV (.o a (x.s.O a)) q])) (g10 : V9.grownBy V10 x.sv.ownBlock) (l10 : x.sv.ownBlock = some g ∨ g = V9.heap.size) :
    ∃ q v', WAt ⟨⟨upf x.s.O a (some v), x.s.I⟩, .o a (x.s.O a) :: x.bs, q :: x.qs, x.ids, x.mo, v'⟩ b fv (n + 1) (V10.setCell ⟨b, 1, none⟩ (.slice (some ⟨g, 0, none⟩) (x.bs.length + 1) cap)) ∧ Chg (x.ft b) (Sx.ft ⟨⟨upf x.s.O a (some v), x.s.I⟩, .o a (x.s.O a) :: x.bs, q :: x.qs, x.ids, x.mo, v'⟩ b) W (V10.setCell ⟨b, 1, none⟩ (.slice (some ⟨g, 0, none⟩) (x.bs.length + 1) cap)) := by
  have hcell := chgWorld (v' := .slice (some ⟨g, 0, none⟩) (x.bs.length + 1) cap) j10
  have hbl := lt_of h.cell
  have hml := h.out.lt
  have hs7 := hB.size
  have hs8 := hc.size
  have hs10 := g10.size
  have fr : ∀ k, k < V8.heap.size → k ≠ b → x.sv.ownBlock ≠ some k → (V10.setCell ⟨b, 1, none⟩ (.slice (some ⟨g, 0, none⟩) (x.bs.length + 1) cap)).heap[k]? = V8.heap[k]? := fun k h1 h2 h3 =>
    (heap_setCell_other _ _ _ _ h2).trans ((g10.block k (by omega) (Ne.symm h3)).trans (B9.block k (by omega)))
  have hsz : (V10.setCell ⟨b, 1, none⟩ (.slice (some ⟨g, 0, none⟩) (x.bs.length + 1) cap)).heap.size = V10.heap.size := by simp [World.setCell]
  have hgb : g ≠ b := by
    rcases l10 with e | e
    · exact (h.row_ne e).1
    · omega
  refine ⟨q, _, h.push (v' := .slice (some ⟨g, 0, none⟩) (x.bs.length + 1) cap) ⟨?_, ?_, ?_, by omega, fun k hk hF => ?_, fun k hk => ?_⟩ hcell (hmap.keep (fr _ (by omega) h.mo_ne (fun e => (h.row_ne e).2.1 rfl))) (fun m hm => ?_) (BkAt.keep (b := .o a (x.s.O a)) hbk fun j h1 h2 => fr j (by omega) (by omega) (fun e => by have := h.row_lt e; omega)) (by omega) (by omega) (own_keep r10 fun k hk => ?_) (fun g' hg' => ?_) (fun m hm => Or.inl hm) (fun m hm => ?_)⟩
  · exact g10.os.trans (B9.os.trans (hc.os.trans hB.os))
  · exact g10.tape.trans (B9.tape.trans (hc.tape.trans hB.tape))
  · exact g10.output.trans (B9.output.trans (hc.output.trans hB.output))
  · have hm : k ≠ x.mo := fun e => hF (Or.inr (Or.inl e))
    exact (fr k (by omega) (fun e => hF (Or.inl e)) (fun e => hF (Or.inr (Or.inr (Or.inr e))))).trans ((hc.block k (by omega) hm).trans (hB.block k hk))
  · rcases hk with e | e | e | e | e
    · exact Or.inl (Or.inl e)
    · exact Or.inl (Or.inr (Or.inl e))
    · exact Or.inl (Or.inr (Or.inr (Or.inl e)))
    · cases e
      rcases l10 with e | e
      · exact Or.inl (Or.inr (Or.inr (Or.inr e)))
      · exact Or.inr (by simp only; omega)
    · exact Or.inr (by omega)
  · have hml2 := (h.inn m hm).lt
    exact ((h7.inn m hm).mono (Nat.le_succ n)).keep ((fr m (by omega) (h.id_ne hm).1 (fun e => (h.row_ne e).2.2 hm)).trans (hc.block m (by omega) (h.id_ne hm).2))
  · cases hk
    exact heap_setCell_other _ _ _ _ hgb
  · cases hg'
    rcases l10 with e | e
    · exact Or.inl e
    · exact Or.inr (by simp only; omega)
  · rcases hm.more with e | e
    · exact hv m e
    · exact h.live m e
set_option maxRecDepth 100000 in
set_option maxHeartbeats 8000000 in
theorem set_c {x : Sx} {b n : Nat} {fv : Value} {W : World} (h : WAt x b fv n W) (hn : n < 1000000) {a : Nm} (ha : a.length = 20) (v : Ch) (hv : ∀ m, v.sl = some m → m ∈ x.ids) :
    Calls Tryz.prog 135 #[.pointer (some ⟨b, 0, none⟩), .string (str a), .agg (chCells v)] W fun e W' => e = .returned (.tuple #[]) ∧ ∃ q v', WAt ⟨⟨upf x.s.O a (some v), x.s.I⟩, .o a (x.s.O a) :: x.bs, q :: x.qs, x.ids, x.mo, v'⟩ b fv (n + 1) W' ∧ Chg (x.ft b) (Sx.ft ⟨⟨upf x.s.O a (some v), x.s.I⟩, .o a (x.s.O a) :: x.bs, q :: x.qs, x.ids, x.mo, v'⟩ b) W W' := by
  have M := (An.start h.ob).alloc (chO v)
  have CL := Lib.hid (fun V => sclone_c (str a) V (by rw [str_size, ha]; omega))
  have HM := Lib.hid M
  have HA := Lib.hid (And.intro hn (And.intro ha hv))
  have HH := Lib.hid h
  clear M hn ha hv h
  unfold chO at HM
  unfold chCells at *
  go_enter Tryz.func135, Tryz.ntmps135
  go_wp2_with fail
  refine (CL.out _).mono ?_
  rintro e V6 ⟨rfl, hb⟩
  have M := HM.out.call hb
  have hB6 : Below W.heap.size W V6 := ((Below.refl _ W).alloc (Nat.le_refl _) _).trans (hb.mono (by simp))
  clear HM hb CL
  go_wp2_with fail
  replace M := M.call (Below.refl _ V6).drew
  have hB7 := hB6.trans (Below.refl _ V6).drew
  clear hB6
  have H0 : V6.drew.heap[b]? = some (worldO x.mo x.sv fv) ∧ V6.drew.heap[W.heap.size]? = some (chO v) := ⟨M.ob.it.cell, M.at (List.mem_cons_self ..)⟩
  have HS := Lib.hid (fun (V : World) (hV : V.heap[b]? = some (worldO x.mo x.sv fv) ∧ V.heap[W.heap.size]? = some (chO v)) => (show (V.cell? ⟨b, 0, none⟩ = some (.map (some x.mo)) ∧ V.cell? ⟨b, 1, none⟩ = some x.sv) ∧ V.cell? ⟨W.heap.size, 0, none⟩ = some (.bool v.ch) ∧ V.cell? ⟨W.heap.size, 1, none⟩ = some (.int .u64 (v.acc.nonce : Nat)) ∧ V.cell? ⟨W.heap.size, 2, none⟩ = some (.int .u64 (l3 v.acc.bal : Nat)) ∧ V.cell? ⟨W.heap.size, 3, none⟩ = some (.int .u64 (l2 v.acc.bal : Nat)) ∧ V.cell? ⟨W.heap.size, 4, none⟩ = some (.int .u64 (l1 v.acc.bal : Nat)) ∧ V.cell? ⟨W.heap.size, 5, none⟩ = some (.int .u64 (l0 v.acc.bal : Nat)) ∧ V.cell? ⟨W.heap.size, 6, none⟩ = some (.string (str v.acc.code)) ∧ V.cell? ⟨W.heap.size, 7, none⟩ = some (.bool v.wi) ∧ V.cell? ⟨W.heap.size, 8, none⟩ = some (.map v.sl) from ⟨⟨cell_of hV.1 0, cell_of hV.1 1⟩, cell_of hV.2 0, cell_of hV.2 1, cell_of hV.2 2, cell_of hV.2 3, cell_of hV.2 4, cell_of hV.2 5, cell_of hV.2 6, cell_of hV.2 7, cell_of hV.2 8⟩))
  refine Drawn.start (fun V => V.heap[b]? = some (worldO x.mo x.sv fv) ∧ V.heap[W.heap.size]? = some (chO v)) (fun j => j == 16) (by kernel_rfl) ?_
  generalize World.drew _ = V7 at M H0 hB7 ⊢
  refine Drawn.take 0 (some 8) (v := ?_) rfl rfl (by kernel_rfl) (by kernel_rfl) (by kernel_rfl) (by kernel_rfl) (by kernel_rfl) rfl (fun _ _ _ h => h) (Or.inl ⟨rfl, ?_⟩) H0 ?_
  rotate_left
  · intro W hW; have hW := HS.out W hW; go_simp; try with_reducible rfl
  simp only [put_list, List.set]
  refine Drawn.take 1 (some 9) (v := ?_) rfl rfl (by kernel_rfl) (by kernel_rfl) (by kernel_rfl) (by kernel_rfl) (by kernel_rfl) rfl (fun _ _ _ h => h) (Or.inl ⟨rfl, ?_⟩) H0 ?_
  rotate_left
  · intro W hW; have hW := HS.out W hW; go_simp; try with_reducible rfl
  simp only [put_list, List.set]
  refine Drawn.take 2 (some 10) (v := ?_) rfl rfl (by kernel_rfl) (by kernel_rfl) (by kernel_rfl) (by kernel_rfl) (by kernel_rfl) rfl (fun _ _ _ h => h) (Or.inl ⟨rfl, ?_⟩) H0 ?_
  rotate_left
  · intro W hW; have hW := HS.out W hW; go_simp; try with_reducible rfl
  simp only [put_list, List.set]
  refine Drawn.take 3 (some 11) (v := ?_) rfl rfl (by kernel_rfl) (by kernel_rfl) (by kernel_rfl) (by kernel_rfl) (by kernel_rfl) rfl (fun _ _ _ h => h) (Or.inl ⟨rfl, ?_⟩) H0 ?_
  rotate_left
  · intro W hW; have hW := HS.out W hW; go_simp; try with_reducible rfl
  simp only [put_list, List.set]
  refine Drawn.take 4 (some 12) (v := ?_) rfl rfl (by kernel_rfl) (by kernel_rfl) (by kernel_rfl) (by kernel_rfl) (by kernel_rfl) rfl (fun _ _ _ h => h) (Or.inl ⟨rfl, ?_⟩) H0 ?_
  rotate_left
  · intro W hW; have hW := HS.out W hW; go_simp; try with_reducible rfl
  simp only [put_list, List.set]
  refine Drawn.take 5 (some 13) (v := ?_) rfl rfl (by kernel_rfl) (by kernel_rfl) (by kernel_rfl) (by kernel_rfl) (by kernel_rfl) rfl (fun _ _ _ h => h) (Or.inl ⟨rfl, ?_⟩) H0 ?_
  rotate_left
  · intro W hW; have hW := HS.out W hW; go_simp; try with_reducible rfl
  simp only [put_list, List.set]
  refine Drawn.take 6 (some 14) (v := ?_) rfl rfl (by kernel_rfl) (by kernel_rfl) (by kernel_rfl) (by kernel_rfl) (by kernel_rfl) rfl (fun _ _ _ h => h) (Or.inl ⟨rfl, ?_⟩) H0 ?_
  rotate_left
  · intro W hW; have hW := HS.out W hW; go_simp; try with_reducible rfl
  simp only [put_list, List.set]
  refine Drawn.take 7 (some 15) (v := ?_) rfl rfl (by kernel_rfl) (by kernel_rfl) (by kernel_rfl) (by kernel_rfl) (by kernel_rfl) rfl (fun _ _ _ h => h) (Or.inl ⟨rfl, ?_⟩) H0 ?_
  rotate_left
  · intro W hW; have hW := HS.out W hW; go_simp; try with_reducible rfl
  simp only [put_list, List.set]
  refine Drawn.take 8 (some 16) (v := ?_) rfl rfl (by kernel_rfl) (by kernel_rfl) (by kernel_rfl) (by kernel_rfl) (by kernel_rfl) rfl (fun _ _ _ h => h) (Or.inl ⟨rfl, ?_⟩) H0 ?_
  rotate_left
  · intro W hW; have hW := HS.out W hW; go_simp; try with_reducible rfl
  simp only [put_list, List.set]
  refine Drawn.take 9 (some 17) (v := ?_) rfl rfl (by kernel_rfl) (by kernel_rfl) (by kernel_rfl) (by kernel_rfl) (by kernel_rfl) rfl (fun _ _ _ h => h) (Or.inl ⟨rfl, ?_⟩) H0 ?_
  rotate_left
  · intro W hW; have hW := HS.out W hW; go_simp; try with_reducible rfl
  simp only [put_list, List.set]
  refine Drawn.take 10 (some 18) (v := ?_) rfl rfl (by kernel_rfl) (by kernel_rfl) (by kernel_rfl) (by kernel_rfl) (by kernel_rfl) rfl (fun _ _ _ h => h) (Or.inl ⟨rfl, ?_⟩) H0 ?_
  rotate_left
  · intro W hW; have hW := HS.out W hW; go_simp; try with_reducible rfl
  simp only [put_list, List.set]
  refine Drawn.only 11 (by kernel_rfl) rfl rfl (fun K hK => ?_)
  go_simp
  refine (putO_c M.ob.it.out (by have := HA.out.1; omega) HA.out.2.1 v).mono ?_
  rintro e V8 ⟨rfl, hbk, hmap, hc⟩
  have h7 := M.ob.it
  have j8 : V8.heap[b]? = some (worldO x.mo x.sv fv) := (hc.block b (lt_of h7.cell) (Ne.symm h7.mo_ne)).trans h7.cell
  have hq0 : W.heap.size < V7.heap.size := lt_of (M.at (List.mem_cons_self ..))
  have k8 : V8.heap[W.heap.size]? = some (chO v) := (hc.block _ hq0 (fun e => by have := h7.out.lt; have := HH.out.out.lt; omega)).trans (M.at (List.mem_cons_self ..))
  have r8 : V8.ownsRow 0 1 1 x.sv x.bs.length (List.zipWith bkV x.bs x.qs).reverse := own_keep h7.row fun k hk => hc.block k (h7.row_lt hk) (h7.row_ne hk).2.1
  refine hK _ _ (fun _ _ => ⟨j8, k8⟩) ?_
  clear hK K
  obtain ⟨q, hq⟩ : ∃ q, q = V7.heap.size := ⟨_, rfl⟩
  rw [← hq] at hbk hc ⊢
  obtain ⟨lb, hcv⟩ : ∃ lb, .func (.func 218) #[] lb = bkV (.o a (x.s.O a)) q := ⟨_, rfl⟩
  rw [← hcv]
  have h81 : q < V8.heap.size := lt_of hbk.hm
  have h84 : q + 5 ≤ V8.heap.size := lt_of hbk.hw
  have H8 := Lib.hid (And.intro h7 (And.intro hbk (And.intro hmap (And.intro hc (And.intro hq hcv)))))
  have HB := Lib.hid (And.intro hB7 (And.intro h81 h84))
  have HR := Lib.hid r8
  clear h7 hbk hmap hc hq hcv hB7 h81 h84 r8 hq0 H0 M
  try simp only [put_list, List.set]
  refine Drawn.only 12 (by kernel_rfl) rfl rfl (fun K hK => ?_)
  go_simp
  have j9 : (V8.alloc (.cells #[.func (.func 218) #[] lb] 1)).heap[b]? = some (worldO x.mo x.sv fv) ∧ (V8.alloc (.cells #[.func (.func 218) #[] lb] 1)).heap[W.heap.size]? = some (chO v) :=
    ⟨(((Below.refl _ V8).alloc (Nat.le_refl _) _).block b (lt_of j8)).trans j8, (((Below.refl _ V8).alloc (Nat.le_refl _) _).block _ (lt_of k8)).trans k8⟩
  have r9 : (V8.alloc (.cells #[.func (.func 218) #[] lb] 1)).ownsRow 0 1 1 x.sv x.bs.length (List.zipWith bkV x.bs x.qs).reverse := own_keep HR.out fun k hk => ((Below.refl _ V8).alloc (Nat.le_refl _) _).block k (World.ownsRow.lt HR.out k hk).2
  have n9 : (V8.alloc (.cells #[.func (.func 218) #[] lb] 1)).heap[V8.heap.size]? = some (.cells #[.func (.func 218) #[] lb] 1 (0, 0)) := heap_alloc_new _ _
  have s9 : (V8.alloc (.cells #[.func (.func 218) #[] lb] 1)).heap.size = V8.heap.size + 1 := alloc_size _ _
  have B9 : Below V8.heap.size V8 (V8.alloc (.cells #[.func (.func 218) #[] lb] 1)) := (Below.refl _ V8).alloc (Nat.le_refl _) _
  refine hK _ _ (fun _ _ => j9) ?_
  clear hK K j8 k8 HR
  generalize World.alloc V8 _ = V9 at j9 r9 n9 s9 B9 ⊢
  obtain ⟨z8, hz8⟩ : ∃ z8, z8 = V8.heap.size := ⟨_, rfl⟩
  rw [← hz8] at n9 s9 B9 ⊢
  obtain ⟨i0, hi, hz0, hz1, hz2⟩ := info_parts infoFn
  try simp only [put_list, List.set]
  refine Drawn.only 13 (by kernel_rfl) rfl rfl (fun K hK => ?_)
  refine wp_append_lies _ (.tmp 12) (.tmp 20) 145 rfl 0 1 i0 .nilFunc 1 8 Tryz.underlying145 hi hz0 hz1 hz2 rfl (by omega) x.sv x.bs.length _ rfl r9 ⟨z8, 0, none⟩ 1 1 [.func (.func 218) #[] lb] rfl rfl (fun j u hj => ?_) (fun u hu => ?_) (by omega) (by have := HH.out.few; have := HA.out.1; unfold maxLen; omega) (by have := HH.out.few; have := HA.out.1; omega) (Nat.zero_le _) _ rfl ?_
  · match j, hj with
    | 0, hj => cases hj; exact cell_of n9 0
    | j + 1, hj => simp at hj
  · rw [List.mem_singleton] at hu; rw [hu]; rfl
  intro g cap V10 r10 g10 l10 m10
  have hrb : x.sv.ownBlock ≠ some b := fun e => (HH.out.row_ne e).1 rfl
  have j10 : V10.heap[b]? = some (worldO x.mo x.sv fv) := (g10.block b (lt_of j9.1) (Ne.symm hrb)).trans j9.1
  refine hK _ _ (fun _ _ => ⟨j10, (g10.block _ (lt_of j9.2) (fun e => by have := HH.out.row_lt e.symm; omega)).trans j9.2⟩) ?_
  have HG := Lib.hid (And.intro r10 (And.intro g10 (And.intro l10 m10)))
  have HJ := Lib.hid (And.intro j10 (And.intro s9 (And.intro B9 hz8)))
  have d1 : V10.cell? ⟨b, 1, none⟩ = some x.sv := cell_of j10 1
  have d2 := free_of j10 1
  have S10 := Lib.hid (And.intro j10 ((g10.block _ (lt_of j9.2) (fun e => by have := HH.out.row_lt e.symm; omega)).trans j9.2))
  clear hK K r10 g10 l10 m10 hrb j10 s9 B9 hz8 j9 r9 n9 hi hz0 hz1 hz2
  try simp only [put_list, List.set]
  refine Drawn.only 14 (by kernel_rfl) rfl rfl (fun K hK => ?_)
  go_simp
  refine hK _ _ (fun _ _ => S10.out) ?_
  clear hK K
  try simp only [put_list, List.set]
  refine Drawn.only 15 (by kernel_rfl) rfl rfl (fun K hK => ?_)
  go_simp
  refine hK _ _ (fun _ _ => S10.out) ?_
  clear hK K
  try simp only [put_list, List.set]
  refine Drawn.only 16 (by kernel_rfl) rfl rfl (fun K hK => ?_)
  go_simp
  refine hK _ _ (fun h _ => by cases h) ?_
  clear hK K HS S10 d1 d2
  try simp only [put_list, List.set]
  refine Drawn.done (by kernel_rfl) ?_ _
  go_wp2_with fail
  go_end0
  exact ⟨rfl, pushed HH.out HA.out.2.2 HB.out.1 H8.out.1 H8.out.2.1 H8.out.2.2.1 H8.out.2.2.2.1 H8.out.2.2.2.2.1 HB.out.2.2 HJ.out.1 HJ.out.2.1 HJ.out.2.2.1 HJ.out.2.2.2 (by have := HG.out.1; rw [H8.out.2.2.2.2.2] at this; exact this) HG.out.2.1 HG.out.2.2.1⟩
end Go.Proofs.YtekoaheiapddiaaGreat.Dz.Wo
end
section
namespace Go.Proofs.YtekoaheiapddiaaGreat.Dz.Wo
open Go.RowKit Go.Maps Mp

abbrev accO (y : AccP) : Obj := .cells (accCells y) 82 (0, 0)
/-- What of an address was changed: nothing, where it is not there. -/
def Ps.ch (s : Ps) (a : Nm) : Ch := (s.O a).getD Ch.zero
theorem WAt.chLive {x : Sx} {b n : Nat} {fv : Value} {W : World} (h : WAt x b fv n W) {a : Nm} {m : Nat} (hm : (x.s.ch a).sl = some m) : m ∈ x.ids := by
  unfold Ps.ch at hm
  cases ho : x.s.O a with
  | none => rw [ho] at hm; cases hm
  | some c => rw [ho] at hm; exact h.live m (Or.inl ⟨a, c, ho, hm⟩)
theorem WAt.look {x : Sx} {b n : Nat} {fv : Value} {W : World} (h : WAt x b fv n W) {a : Nm} (ha : a.length = 20) : (Instr.lookup 144 (.map (some x.mo)) (.string (str a)) false).run Tryz.prog W = .ok (.agg (chCells (x.s.ch a))) W := by
  have h1 := h.out.look (k := a) ha false
  unfold Ps.ch
  cases hf : x.s.O a with
  | none => rw [hf] at h1; exact h1
  | some x => rw [hf] at h1; exact h1
theorem setCh {V : World} {q : Nat} {c0 : Ch} (y : AccP) (h : V.heap[q]? = some (chO c0)) : (((((((V.setCell ⟨q, 0, none⟩ (.bool true)).setCell ⟨q, 1, none⟩ (.int .u64 y.nonce)).setCell ⟨q, 2, none⟩ (.int .u64 (l3 y.bal : Nat))).setCell ⟨q, 3, none⟩ (.int .u64 (l2 y.bal : Nat))).setCell ⟨q, 4, none⟩ (.int .u64 (l1 y.bal : Nat))).setCell ⟨q, 5, none⟩ (.int .u64 (l0 y.bal : Nat))).setCell ⟨q, 6, none⟩ (.string (str y.code))).heap[q]? = some (chO ⟨true, y, c0.wi, c0.sl⟩) := by
  unfold chO chCells at *
  simp only
  generalize str c0.acc.code = z0 at h
  generalize str y.code = z1
  generalize l3 y.bal = y3
  generalize l2 y.bal = y2
  generalize l1 y.bal = y1
  generalize l0 y.bal = y0
  have e := heap_setCell_same _ _ 6 _ _ (.string z1) (heap_setCell_same _ _ 5 _ _ (.int .u64 y0) (heap_setCell_same _ _ 4 _ _ (.int .u64 y1) (heap_setCell_same _ _ 3 _ _ (.int .u64 y2) (heap_setCell_same _ _ 2 _ _ (.int .u64 y3) (heap_setCell_same _ _ 1 _ _ (.int .u64 y.nonce) (heap_setCell_same _ _ 0 _ _ (.bool true) h))))))
  simpa using e
def SetR (x : Sx) (b n : Nat) (fv : Value) (a : Nm) (v : Ch) (W W' : World) : Prop := ∃ q v', WAt ⟨⟨upf x.s.O a (some v), x.s.I⟩, .o a (x.s.O a) :: x.bs, q :: x.qs, x.ids, x.mo, v'⟩ b fv (n + 1) W' ∧ Chg (x.ft b) (Sx.ft ⟨⟨upf x.s.O a (some v), x.s.I⟩, .o a (x.s.O a) :: x.bs, q :: x.qs, x.ids, x.mo, v'⟩ b) W W'
set_option maxRecDepth 100000 in
set_option maxHeartbeats 4000000 in
theorem wipe_c {x : Sx} {b n : Nat} {fv : Value} {W : World} (h : WAt x b fv n W) (hn : n < 1000000) {a : Nm} (ha : a.length = 20) :
    Calls Tryz.prog 98 #[.pointer (some ⟨b, 0, none⟩), .string (str a)] W fun e W' => e = .returned (.tuple #[]) ∧ SetR x b n fv a ⟨true, AccP.zero, true, none⟩ W W' := by
  have C := Lib.hid (set_c h hn ha ⟨true, AccP.zero, true, none⟩ (fun m hm => by cases hm))
  rw [show chCells ⟨true, AccP.zero, true, none⟩ = #[.bool true, .int .u64 0, .int .u64 0, .int .u64 0, .int .u64 0, .int .u64 0, .string ⟨#[]⟩, .bool true, .map none] from by simp [chCells, AccP.zero, lim_zero, str]] at C
  clear h hn ha
  go_enter Tryz.func98, Tryz.ntmps98
  go_wp2_with fail
  refine C.out.mono ?_
  rintro e V1 ⟨rfl, h1⟩
  go_wp2_with fail
  go_end0
  exact ⟨rfl, h1⟩
set_option maxRecDepth 100000 in
set_option maxHeartbeats 8000000 in
theorem setAccount_c {x : Sx} {b n : Nat} {fv : Value} {W : World} (h : WAt x b fv n W) (hn : n < 1000000) {a : Nm} (ha : a.length = 20) (y : AccP) :
    Calls Tryz.prog 91 #[.pointer (some ⟨b, 0, none⟩), .string (str a), .agg (accCells y)] W fun e W' => e = .returned (.tuple #[]) ∧ SetR x b n fv a ⟨true, y, (x.s.ch a).wi, (x.s.ch a).sl⟩ W W' := by
  have M1 := (An.start h.ob).alloc (accO y)
  have HL := M1.ob.it.look ha
  have b0 := M1.ob.it.cells.1.1
  have M2 := M1.alloc (chO (x.s.ch a))
  rw [alloc_size] at M2
  have HM := Lib.hid (And.intro M2 (And.intro hn ha))
  clear h hn ha M1 M2
  obtain ⟨c0, hc0⟩ : ∃ c0, c0 = x.s.ch a := ⟨_, rfl⟩
  rw [← hc0] at HL HM ⊢
  have HC := Lib.hid hc0
  clear hc0
  unfold accO at *
  unfold chO at *
  unfold chCells accCells at *
  go_enter Tryz.func91, Tryz.ntmps91
  go_wp2_with fail
  have M := HM.out.1
  generalize World.alloc (World.alloc W _) _ = V2 at M ⊢
  obtain ⟨q0, hq0⟩ : ∃ q0, q0 = W.heap.size := ⟨_, rfl⟩
  rw [← hq0] at M ⊢
  obtain ⟨q1, hq1⟩ : ∃ q1, q1 = q0 + 1 := ⟨_, rfl⟩
  rw [← hq1] at M ⊢
  have hne : q1 ≠ q0 := by omega
  have hne2 : q0 ≠ q1 := by omega
  have HQ := Lib.hid (And.intro hq0 hq1)
  have g1 := M.at (q := q1) (List.mem_cons_self ..)
  have g0 := M.at (q := q0) (List.mem_cons_of_mem _ (List.mem_cons_self ..))
  have f0 := cell_of g0 0
  have f1 := cell_of g0 1
  have f2 := cell_of g0 2
  have f3 := cell_of g0 3
  have f4 := cell_of g0 4
  have f5 := cell_of g0 5
  have k0 := cell_of g1 0
  have e0 := free_of g1 0
  have k1 := cell_of g1 1
  have e1 := free_of g1 1
  have k2 := cell_of g1 2
  have e2 := free_of g1 2
  have k3 := cell_of g1 3
  have e3 := free_of g1 3
  have k4 := cell_of g1 4
  have e4 := free_of g1 4
  have k5 := cell_of g1 5
  have e5 := free_of g1 5
  have k6 := cell_of g1 6
  have e6 := free_of g1 6
  have k7 := cell_of g1 7
  have e7 := free_of g1 7
  have k8 := cell_of g1 8
  have e8 := free_of g1 8
  have HMM := Lib.hid (And.intro M (And.intro HM.out.2.1 HM.out.2.2))
  clear M HM hq0 hq1 g0 g1 HL b0
  simp only [List.getElem?_toArray, List.getElem?_cons_zero, List.getElem?_cons_succ] at f0 f1 f2 f3 f4 f5 k0 k1 k2 k3 k4 k5 k6 k7 k8
  go_region
  have M3 := ((HMM.out.1.sub (L' := [(q1, _)]) (fun z hz => by obtain rfl := List.mem_singleton.1 hz; exact List.mem_cons_self ..)).put (chg_set7 V2 q1 (.bool true) (.int .u64 y.nonce) (.int .u64 (l3 y.bal : Nat)) (.int .u64 (l2 y.bal : Nat)) (.int .u64 (l1 y.bal : Nat)) (.int .u64 (l0 y.bal : Nat)) (.string (str y.code))) (setCh y (HMM.out.1.at (List.mem_cons_self ..))) (by simp)).call (Below.refl _ _).drew
  clear k0 k1 k2 k3 k4 k5 k6 k7 k8 e0 e1 e2 e3 e4 e5 e6 e7 e8 f0 f1 f2 f3 f4 f5
  generalize World.drew _ = V3 at M3 ⊢
  have g1 := M3.at (q := q1) (List.mem_cons_self ..)
  have k0 := cell_of g1 0
  have k1 := cell_of g1 1
  have k2 := cell_of g1 2
  have k3 := cell_of g1 3
  have k4 := cell_of g1 4
  have k5 := cell_of g1 5
  have k6 := cell_of g1 6
  have k7 := cell_of g1 7
  have k8 := cell_of g1 8
  have C := Lib.hid (set_c M3.ob.it HMM.out.2.1 HMM.out.2.2 ⟨true, y, c0.wi, c0.sl⟩ (fun m hm => M3.ob.it.chLive (a := a) (by rw [← HC.out]; exact hm)))
  unfold chO at *
  unfold chCells at *
  have H3 := Lib.hid M3
  clear M3 g1
  simp only [List.getElem?_toArray, List.getElem?_cons_zero, List.getElem?_cons_succ] at k0 k1 k2 k3 k4 k5 k6 k7 k8
  go_wp2_with fail
  refine C.out.mono ?_
  rintro e V4 ⟨rfl, q, v', h1, h2⟩
  go_wp2_with fail
  go_end0
  exact ⟨rfl, q, v', h1, (H3.out.step h1.ob h2).chg⟩
end Go.Proofs.YtekoaheiapddiaaGreat.Dz.Wo
end
section
namespace Go.Proofs.YtekoaheiapddiaaGreat.Dz.Wo
open Go.RowKit Go.Maps Mp

/-- What lies there tells G, and taken back, the newest change first, old. -/
structure Rp (x : Sx) (G : Gs) (old : List Gs) : Prop where
  abs : x.s.abs = G
  uniq : Uniq x.s.O
  hist : Hist x.s x.bs old
def SetG (G : Gs) (old : List Gs) (x : Sx) (b n : Nat) (fv : Value) (a : Nm) (y : Ent) (W W' : World) : Prop := ∃ x', WAt x' b fv n W' ∧ Rp x' (upf G a (some y)) (G :: old) ∧ Chg (x.ft b) (x'.ft b) W W'
theorem Rp.ent {x : Sx} {G : Gs} {old : List Gs} (h : Rp x G old) (a : Nm) : (G a).getD Ent.zero = (x.s.ch a).ent x.s.I := by
  rw [← h.abs]
  unfold Ps.abs Ps.ch
  cases x.s.O a with
  | none => rfl
  | some c => rfl
theorem uniq_set {O : Nm → Option Ch} (h : Uniq O) {a : Nm} {v : Ch} (hv : ∀ m, v.sl = some m → ∀ k x, O k = some x → x.sl = some m → k = a) : Uniq (upf O a (some v)) := fun k k' x x' m h1 h2 h3 h4 => by
  by_cases e1 : k = a
  · by_cases e2 : k' = a
    · rw [e1, e2]
    · rw [e1, upf_same] at h1; cases h1
      rw [upf_other _ _ e2] at h2
      rw [e1]; exact (hv m h3 k' x' h2 h4).symm
  · rw [upf_other _ _ e1] at h1
    by_cases e2 : k' = a
    · rw [e2, upf_same] at h2; cases h2
      rw [e2]; exact hv m h4 k x h1 h3
    · rw [upf_other _ _ e2] at h2
      exact h k k' x x' m h1 h2 h3 h4
theorem SetR.told {x : Sx} {b n : Nat} {fv : Value} {a : Nm} {v : Ch} {W W' : World} {G : Gs} {old : List Gs} (h : SetR x b n fv a v W W') (hr : Rp x G old) (hv : ∀ m, v.sl = some m → ∀ k y, x.s.O k = some y → y.sl = some m → k = a) : SetG G old x b (n + 1) fv a (v.ent x.s.I) W W' := by
  obtain ⟨q, v', h1, h2⟩ := h
  refine ⟨_, h1, ⟨?_, uniq_set hr.uniq hv, ?_, ?_, ?_⟩, h2⟩
  · rw [← hr.abs]
    funext k
    unfold Ps.abs
    simp only
    by_cases e : k = a
    · rw [e, upf_same, upf_same]; rfl
    · rw [upf_other _ _ e, upf_other _ _ e]
  · show Ps.abs ⟨upf (upf x.s.O a (some v)) a (x.s.O a), x.s.I⟩ = G
    rw [upf_back]; exact hr.abs
  · show Uniq (upf (upf x.s.O a (some v)) a (x.s.O a))
    rw [upf_back]; exact hr.uniq
  · show Hist ⟨upf (upf x.s.O a (some v)) a (x.s.O a), x.s.I⟩ x.bs old
    rw [upf_back]; exact hr.hist
theorem Rp.alone {x : Sx} {G : Gs} {old : List Gs} (h : Rp x G old) {a : Nm} {m : Nat} (hm : (x.s.ch a).sl = some m) : ∀ k y, x.s.O k = some y → y.sl = some m → k = a := fun k y h1 h2 => by
  unfold Ps.ch at hm
  cases ho : x.s.O a with
  | none => rw [ho] at hm; cases hm
  | some c => rw [ho] at hm; exact h.uniq k a y c m h1 ho h2 hm
/-- A map of slots more, that nothing names yet. -/
def Sx.more (x : Sx) (m : Nat) (f : Nat → Option Nat) : Sx := ⟨⟨x.s.O, fun j => if j = m then f else x.s.I j⟩, x.bs, x.qs, m :: x.ids, x.mo, x.sv⟩
theorem WAt.more {x : Sx} {b n : Nat} {fv : Value} {V : World} (h : WAt x b fv n V) {m : Nat} {f : Nat → Option Nat} (hm : MapFn kitW m n f V) (hnew : ¬ x.ft b m) : WAt (x.more m f) b fv n V := by
  refine ⟨h.cell, h.out, fun j hj => ?_, h.row, h.len, h.few, h.clo, fun j hj => List.mem_cons_of_mem _ (h.live j hj), fun hj => ?_, fun q hq j h1 h2 => ?_⟩
  · rcases List.mem_cons.1 hj with rfl | hj
    · show MapFn kitW j n (if j = j then f else _) V
      rw [if_pos rfl]; exact hm
    · have e : j ≠ m := fun e => hnew (Or.inr (Or.inr (Or.inl (by rw [← e]; exact hj))))
      show MapFn kitW j n (if j = m then f else x.s.I j) V
      rw [if_neg e]; exact h.inn j hj
  · rcases List.mem_cons.1 hj with e | hj
    · exact hnew (Or.inr (Or.inl e.symm))
    · exact h.sep hj
  · obtain ⟨a1, a2, a3, a4⟩ := h.apart q hq j h1 h2
    refine ⟨a1, a2, fun hj => ?_, a4⟩
    rcases List.mem_cons.1 hj with e | hj
    · exact hnew (Or.inr (Or.inr (Or.inr (Or.inr ⟨q, hq, by omega, by omega⟩))))
    · exact a3 hj
theorem Rp.more {x : Sx} {b n : Nat} {fv : Value} {V : World} {G : Gs} {old : List Gs} (h : Rp x G old) (hw : WAt x b fv n V) {m : Nat} {f : Nat → Option Nat} (hnew : ¬ x.ft b m) : Rp (x.more m f) G old := by
  have hI : ∀ j, Live x.s x.bs j → (x.more m f).s.I j = x.s.I j := fun j hj => if_neg (fun e => hnew (Or.inr (Or.inr (Or.inl (by rw [← e]; exact hw.live j hj)))))
  exact ⟨(abs_agree (s := x.s) (t := (x.more m f).s) rfl fun j hj => hI j hj.less).trans h.abs, h.uniq, h.hist.agree rfl hI⟩
/-- A slot's change, in a map that is there. -/
def Sx.slot (x : Sx) (m k v q : Nat) (sv : Value) : Sx := ⟨⟨x.s.O, fun j => if j = m then upf (x.s.I m) k (some v) else x.s.I j⟩, .i m k (x.s.I m k) :: x.bs, q :: x.qs, x.ids, x.mo, sv⟩
theorem Rp.slot {x : Sx} {G : Gs} {old : List Gs} (h : Rp x G old) {a : Nm} {m : Nat} (hm : (x.s.ch a).sl = some m) (k v q : Nat) (sv : Value) :
    Rp (x.slot m k v q sv) (upf G a (some ⟨((x.s.ch a).ent x.s.I).ch, ((x.s.ch a).ent x.s.I).acc, ((x.s.ch a).ent x.s.I).wi, upf ((x.s.ch a).ent x.s.I).sl k (some v)⟩)) (G :: old) := by
  have hback : (Bk.i m k (x.s.I m k)).undo (x.slot m k v q sv).s = x.s := by
    show (⟨x.s.O, _⟩ : Ps) = x.s
    have e : (fun j => if j = m then upf (if m = m then upf (x.s.I m) k (some v) else x.s.I m) k (x.s.I m k) else if j = m then upf (x.s.I m) k (some v) else x.s.I j) = x.s.I := by
      funext j
      by_cases e : j = m
      · rw [if_pos e, if_pos rfl, upf_back, e]
      · rw [if_neg e, if_neg e]
    show (⟨x.s.O, fun j => if j = m then upf (if m = m then upf (x.s.I m) k (some v) else x.s.I m) k (x.s.I m k) else if j = m then upf (x.s.I m) k (some v) else x.s.I j⟩ : Ps) = x.s
    rw [e]
  refine ⟨?_, h.uniq, by rw [hback]; exact h.abs, by rw [hback]; exact h.uniq, by rw [hback]; exact h.hist⟩
  rw [← h.abs]
  funext j
  unfold Ps.abs
  simp only [Sx.slot]
  by_cases e : j = a
  · rw [e, upf_same]
    unfold Ps.ch at hm ⊢
    cases ho : x.s.O a with
    | none => rw [ho] at hm; cases hm
    | some c =>
      rw [ho] at hm
      simp only [Option.getD_some] at hm
      simp only [Option.map_some, Option.getD_some, Ch.ent, hm, if_pos]
  · rw [upf_other _ _ e]
    cases hj : x.s.O j with
    | none => rfl
    | some c =>
      simp only [Option.map_some, Option.some.injEq, Ch.ent, Ent.mk.injEq, true_and]
      cases hs : c.sl with
      | none => rfl
      | some m' =>
        have hne : m' ≠ m := fun e2 => e (h.alone hm j c hj (by rw [← e2]; exact hs))
        simp only [if_neg hne]
end Go.Proofs.YtekoaheiapddiaaGreat.Dz.Wo
end
