/- Merged: Fd, Fe. -/
import Derived.Test.YtekoaheiapddiaaGreatU23
import Derived.Test.YtekoaheiapddiaaGreatU06
import Derived.Test.YtekoaheiapddiaaGreatU07
import Derived.Test.YtekoaheiapddiaaGreatU17
section
namespace Go.Proofs.YtekoaheiapddiaaGreat.Dz
open Go.RowKit

/-- A client: its block, its map's, its script's row, its asks' row. -/
def ftC (b m : Nat) (sv av : Value) (k : Nat) : Prop := k = b ∨ k = m ∨ sv.ownBlock = some k ∨ av.ownBlock = some k
def cellsC (d m : Nat) (name : Nm) (sv av : Value) : Array Value := #[.pointer (some ⟨d, 0, none⟩), .string (str name), .map (some m), sv, av]
structure CAt (c : Cl) (name : Nm) (d b m : Nat) (sv av : Value) (W : World) : Prop where
  cell : W.heap[b]? = some (.cells (cellsC d m name sv av) 114 (0, 0))
  map : MapIs m c.known W
  scr : Of 0 9 (c.script.map encS) sv W
  ask : OwnS 0 c.asked av W
  ap : ∀ k, sv.ownBlock = some k → av.ownBlock ≠ some k
  ok : KOk c.known
section
variable {c : Cl} {name : Nm} {d b m : Nat} {sv av : Value} {W : World}
theorem CAt.lt (h : CAt c name d b m sv av W) {k : Nat} (hk : ftC b m sv av k) : k < W.heap.size := by
  rcases hk with rfl | rfl | hk | hk
  · exact lt_of h.cell
  · exact h.map.lt
  · exact (h.scr.lt hk).2
  · exact (h.ask.lt hk).2
theorem CAt.kept {W' : World} (h : CAt c name d b m sv av W) (hk : ∀ k, ftC b m sv av k → W'.heap[k]? = W.heap[k]?) : CAt c name d b m sv av W' :=
  ⟨(hk _ (Or.inl rfl)).trans h.cell, h.map.keep (hk _ (Or.inr (Or.inl rfl))), h.scr.keep fun k e => hk k (Or.inr (Or.inr (Or.inl e))), own_keep h.ask fun k e => hk k (Or.inr (Or.inr (Or.inr e))), h.ap, h.ok⟩
theorem CAt.below {W' : World} (h : CAt c name d b m sv av W) (hb : Below W.heap.size W W') : CAt c name d b m sv av W' := h.kept fun k hk => hb.block k (h.lt hk)
theorem CAt.chg {W' : World} {F F' : Nat → Prop} (h : CAt c name d b m sv av W) (hc : Chg F F' W W') (hd : ∀ k, ftC b m sv av k → ¬ F k) : CAt c name d b m sv av W' := h.kept fun k hk => hc.block k (h.lt hk) (hd k hk)
theorem CAt.reads (h : CAt c name d b m sv av W) : (W.cell? ⟨b, 0, none⟩ = some (.pointer (some ⟨d, 0, none⟩)) ∧ W.cell? ⟨b, 1, none⟩ = some (.string (str name)) ∧ W.cell? ⟨b, 2, none⟩ = some (.map (some m)) ∧ W.cell? ⟨b, 3, none⟩ = some sv ∧ W.cell? ⟨b, 4, none⟩ = some av) ∧
    ∀ j, W.frozen? ⟨b, j, none⟩ = false :=
  ⟨⟨cell_of h.cell 0, cell_of h.cell 1, cell_of h.cell 2, cell_of h.cell 3, cell_of h.cell 4⟩, fun j => free_of h.cell j⟩
theorem CAt.mb (h : CAt c name d b m sv av W) : m ≠ b := fun e => by
  obtain ⟨es, ck, h1, _⟩ := h.map
  rw [e, h.cell] at h1; cases h1
theorem CAt.sb (h : CAt c name d b m sv av W) {k : Nat} (hk : sv.ownBlock = some k) : k ≠ b ∧ k ≠ m := by
  obtain ⟨cs, h1⟩ := h.scr.cells hk
  refine ⟨fun e => ?_, fun e => ?_⟩
  · rw [e, h.cell] at h1; injection h1 with h1; injection h1 with _ h2; exact absurd h2 (by decide)
  · obtain ⟨es, ck, h2, _⟩ := h.map
    rw [e, h2] at h1; cases h1
theorem CAt.ab (h : CAt c name d b m sv av W) {k : Nat} (hk : av.ownBlock = some k) : k ≠ b ∧ k ≠ m := by
  obtain ⟨cs, h1⟩ := own_block h.ask hk
  refine ⟨fun e => ?_, fun e => ?_⟩
  · rw [e, h.cell] at h1; injection h1 with h1; injection h1 with _ h2; exact absurd h2 (by decide)
  · obtain ⟨es, ck, h2, _⟩ := h.map
    rw [e, h2] at h1; cases h1
/-- The script anew: its row, and the client's cell. -/
theorem CAt.newScript {W1 : World} {sv' : Value} {s' : List Nm} (h : CAt c name d b m sv av W) (hc : Chg (fun k => sv.ownBlock = some k) (fun k => sv'.ownBlock = some k) W W1) (ho : Of 0 9 (s'.map encS) sv' W1) :
    CAt { c with script := s' } name d b m sv' av (W1.setCell ⟨b, 3, none⟩ sv') ∧ Chg (ftC b m sv av) (ftC b m sv' av) W (W1.setCell ⟨b, 3, none⟩ sv') := by
  have hb : ∀ k, k ≠ b → (W1.setCell ⟨b, 3, none⟩ sv').heap[k]? = W1.heap[k]? := fun k hk => heap_setCell_other _ _ _ _ (by simpa using hk)
  have old : ∀ k, k < W.heap.size → (sv.ownBlock = some k → False) → W1.heap[k]? = W.heap[k]? := fun k hk hn => hc.block k hk hn
  have hbo : W1.heap[b]? = W.heap[b]? := old b (lt_of h.cell) fun e => (h.sb e).1 rfl
  have hsv : ∀ k, sv'.ownBlock = some k → k ≠ b ∧ k ≠ m ∧ av.ownBlock ≠ some k := fun k hk => by
    rcases hc.new k hk with h1 | h1
    · exact ⟨(h.sb h1).1, (h.sb h1).2, h.ap k h1⟩
    · exact ⟨fun e => by have := lt_of h.cell; omega, fun e => by have := h.map.lt; omega, fun e => by have := (h.ask.lt e).2; omega⟩
  refine ⟨⟨?_, h.map.keep ((hb m h.mb).trans (old m h.map.lt fun e => (h.sb e).2 rfl)), ho.keep fun k hk => hb k (hsv k hk).1, own_keep h.ask fun k hk => (hb k (h.ab hk).1).trans (old k (h.ask.lt hk).2 fun e => h.ap k e hk), fun k hk => (hsv k hk).2.2, h.ok⟩, ?_⟩
  · have := heap_setCell_same W1 b 3 _ _ sv' (hbo.trans h.cell)
    simpa [cellsC] using this
  · refine ⟨hc.os, hc.tape, hc.output, by simpa [World.setCell] using hc.size, fun k hk hn => ?_, fun k hk => ?_⟩
    · exact (hb k fun e => hn (Or.inl e)).trans (old k hk fun e => hn (Or.inr (Or.inr (Or.inl e))))
    · rcases hk with rfl | rfl | hk | hk
      · exact Or.inl (Or.inl rfl)
      · exact Or.inl (Or.inr (Or.inl rfl))
      · exact (hc.new k hk).imp (fun e => Or.inr (Or.inr (Or.inl e))) id
      · exact Or.inl (Or.inr (Or.inr (Or.inr hk)))
/-- The asks anew. -/
theorem CAt.newAsked {W1 : World} {av' : Value} {s' : List Nm} (h : CAt c name d b m sv av W) (hc : Chg (fun k => av.ownBlock = some k) (fun k => av'.ownBlock = some k) W W1) (ho : OwnS 0 s' av' W1) :
    CAt { c with asked := s' } name d b m sv av' (W1.setCell ⟨b, 4, none⟩ av') ∧ Chg (ftC b m sv av) (ftC b m sv av') W (W1.setCell ⟨b, 4, none⟩ av') := by
  have hb : ∀ k, k ≠ b → (W1.setCell ⟨b, 4, none⟩ av').heap[k]? = W1.heap[k]? := fun k hk => heap_setCell_other _ _ _ _ (by simpa using hk)
  have old : ∀ k, k < W.heap.size → (av.ownBlock = some k → False) → W1.heap[k]? = W.heap[k]? := fun k hk hn => hc.block k hk hn
  have hbo : W1.heap[b]? = W.heap[b]? := old b (lt_of h.cell) fun e => (h.ab e).1 rfl
  have hsv : ∀ k, av'.ownBlock = some k → k ≠ b ∧ k ≠ m ∧ sv.ownBlock ≠ some k := fun k hk => by
    rcases hc.new k hk with h1 | h1
    · exact ⟨(h.ab h1).1, (h.ab h1).2, fun e => h.ap k e h1⟩
    · exact ⟨fun e => by have := lt_of h.cell; omega, fun e => by have := h.map.lt; omega, fun e => by have := (h.scr.lt e).2; omega⟩
  refine ⟨⟨?_, h.map.keep ((hb m h.mb).trans (old m h.map.lt fun e => (h.ab e).2 rfl)), h.scr.keep fun k hk => (hb k (h.sb hk).1).trans (old k (h.scr.lt hk).2 fun e => h.ap k hk e), own_keep ho fun k hk => hb k (hsv k hk).1, fun k hk e => (hsv k e).2.2 hk, h.ok⟩, ?_⟩
  · have := heap_setCell_same W1 b 4 _ _ av' (hbo.trans h.cell)
    simpa [cellsC] using this
  · refine ⟨hc.os, hc.tape, hc.output, by simpa [World.setCell] using hc.size, fun k hk hn => ?_, fun k hk => ?_⟩
    · exact (hb k fun e => hn (Or.inl e)).trans (old k hk fun e => hn (Or.inr (Or.inr (Or.inr e))))
    · rcases hk with rfl | rfl | hk | hk
      · exact Or.inl (Or.inl rfl)
      · exact Or.inl (Or.inr (Or.inl rfl))
      · exact Or.inl (Or.inr (Or.inr (Or.inl hk)))
      · exact (hc.new k hk).imp (fun e => Or.inr (Or.inr (Or.inr e))) id
/-- One known more. -/
theorem CAt.newKnown {o : Obj} (h : CAt c name d b m sv av W) {K : KL} (hK : KOk K) (ho : MapIs m K (ChangeMaps.setBlock W m o)) :
    CAt { c with known := K } name d b m sv av (ChangeMaps.setBlock W m o) ∧ Chg (ftC b m sv av) (ftC b m sv av) W (ChangeMaps.setBlock W m o) := by
  have hb : ∀ k, k ≠ m → (ChangeMaps.setBlock W m o).heap[k]? = W.heap[k]? := fun k hk => setBlock_other hk
  refine ⟨⟨(hb b (Ne.symm h.mb)).trans h.cell, ho, h.scr.keep fun k hk => hb k (h.sb hk).2, own_keep h.ask fun k hk => hb k (h.ab hk).2, h.ap, hK⟩, ⟨rfl, rfl, rfl, by rw [setBlock_size]; exact Nat.le_refl _, fun k _ hn => hb k fun e => hn (Or.inr (Or.inl e)), fun k hk => Or.inl hk⟩⟩
theorem chg_set {F F' : Nat → Prop} {W1 : World} (h : Chg F F' W W1) {q : Nat} (hq : F q ∨ W.heap.size ≤ q) (j : Nat) (u : Value) : Chg F F' W (W1.setCell ⟨q, j, none⟩ u) :=
  ⟨h.os, h.tape, h.output, by simpa [World.setCell] using h.size, fun k hk hn => (heap_setCell_other _ _ _ _ (by rcases hq with hq | hq; exact fun e => hn (by simp at e; rw [e]; exact hq); intro e; simp at e; omega)).trans (h.block k hk hn), h.new⟩
set_option maxRecDepth 100000 in
theorem next_c (h : CAt c name d b m sv av W) : Calls Tryz.prog 219 #[.pointer (some ⟨b, 0, none⟩)] W fun e W' => e = .returned (.string (str (c.script.headD []))) ∧ ∃ sv', CAt { c with script := c.script.tail } name d b m sv' av W' ∧ Chg (ftC b m sv av) (ftC b m sv' av) W W' := by
  obtain ⟨⟨_, _, _, c3, _⟩, f⟩ := h.reads
  have f3 := f 3
  cases hs : c.script with
  | nil =>
    obtain ⟨a, cp, hf⟩ := h.scr.form
    rw [List.length_map, hs] at hf
    rw [hf] at c3
    have HZ := Lib.hid (show CAt { c with script := ([] : List Nm).tail } name d b m sv av W by rw [show ({ c with script := ([] : List Nm).tail } : Cl) = c by cases c; simp_all]; exact h)
    clear h hf hs f
    go_enter Tryz.func219, Tryz.ntmps219
    go_wp2_with fail
    go_ret
    exact ⟨rfl, sv, HZ.out, Chg.refl _ _⟩
  | cons s t =>
    have hO := h.scr
    rw [hs, List.map_cons] at hO
    obtain ⟨g, o, cp, rfl, hcp, d0, f0, _, hg⟩ := hO.head
    rw [List.length_map] at c3 hO hcp h
    have hT := (hO.setHead (u' := .string ⟨#[]⟩)).tail
    have hne : g ≠ b := (h.sb (k := g) rfl).1
    have e3 : (W.setCell ⟨g, o, none⟩ (.string ⟨#[]⟩)).cell? ⟨b, 3, none⟩ = some (.slice (some ⟨g, o, none⟩) (t.length + 1) cp) := by rw [World.cell?_setCell_other _ _ _ _ (by intro e; injection e with e1; exact hne e1)]; exact c3
    have e4 : (W.setCell ⟨g, o, none⟩ (.string ⟨#[]⟩)).frozen? ⟨b, 3, none⟩ = false := by rw [World.frozen?_setCell]; exact f3
    have f1 := f0 o
    have hch : Chg (fun k => (Value.slice (some ⟨g, o, none⟩) (t.length + 1) cp).ownBlock = some k) (fun k => (Value.slice (some ⟨g, o, none⟩) (t.length + 1) cp).ownBlock = some k) W (W.setCell ⟨g, o, none⟩ (.string ⟨#[]⟩)) := chg_set (W := W) (q := g) (Chg.refl (fun k => (Value.slice (some ⟨g, o, none⟩) (t.length + 1) cp).ownBlock = some k) W) (Or.inl rfl) _ _
    have hN1 : cp = 1 → _ := fun e => h.newScript (s' := t) (sv' := .slice (some ⟨g, o, none⟩) t.length 0) hch (by have := hT.1 e; rwa [List.length_map] at this)
    have hN2 : cp ≠ 1 → _ := fun e => h.newScript (s' := t) (sv' := .slice (some ⟨g, o + 1, none⟩) t.length (cp - 1)) hch (by have := hT.2 e; rwa [List.length_map] at this)
    have H1 := Lib.hid hN1
    have H2 := Lib.hid hN2
    clear h hO hT hne hch hN1 hN2 hs f f0 hg
    generalize t.length = n at *
    by_cases h1 : cp = 1
    · subst h1
      obtain rfl : n = 0 := by omega
      have HQ := Lib.hid (H1.out rfl)
      clear H1 H2
      go_enter Tryz.func219, Tryz.ntmps219
      go_wp2_with fail
      go_ret
      exact ⟨rfl, _, HQ.out⟩
    · have HQ := Lib.hid (H2.out h1)
      clear H1 H2
      go_enter Tryz.func219, Tryz.ntmps219
      go_wp2_with fail
      go_ret
      exact ⟨rfl, _, HQ.out⟩
end
end Go.Proofs.YtekoaheiapddiaaGreat.Dz
end
section
namespace Go.Proofs.YtekoaheiapddiaaGreat.Dz
open Go.RowKit

section
variable {c : Cl} {name : Nm} {d b m : Nat} {sv av : Value} {W : World}
set_option maxRecDepth 100000 in
theorem asked_c (h : CAt c name d b m sv av W) (hn : c.asked.length ≤ 1000000000) : Calls Tryz.prog 21 #[.pointer (some ⟨b, 0, none⟩)] W fun e W' => ∃ v, e = .returned v ∧ OwnS W.heap.size c.asked v W' ∧ Below W.heap.size W W' := by
  obtain ⟨⟨_, _, _, _, c4⟩, _⟩ := h.reads
  have hO := h.ask
  rcases hO.2 with ⟨rfl, h0⟩ | ⟨g, cap, cur, rfl, hb1, hg, hcap, hmx, hsz, htk⟩
  · have hnil : c.asked = [] := List.eq_nil_of_length_eq_zero h0
    rw [hnil]
    have C := Lib.hid (fun W => Tryz.slices_Clone_string_nil 0 0 W)
    clear h hO hnil h0 hn
    go_enter Tryz.func21, Tryz.ntmps21
    go_wp2_with fail
    refine (C.out _).mono ?_
    rintro e w1 ⟨rfl, rfl⟩
    go_wp2_with fail
    go_ret
    exact ⟨_, rfl, World.ownsRow_nil _ _ _ _, Below.refl _ _⟩
  · have hc : ∀ j, j < (c.asked.map str).length → W.cell? ⟨g, 0 + j, none⟩ = some (.string ((c.asked.map str).getD j ByteArray.empty)) := fun j hj => by
      rw [List.length_map] at hj
      have h1 : (c.asked.map encS)[j]? = some (.string (str c.asked[j])) := by rw [List.getElem?_map, List.getElem?_eq_getElem hj]; rfl
      have h2 := own_cell hO rfl j _ h1
      rw [Nat.zero_add, h2]
      congr 2
      rw [List.getD_eq_getElem?_getD, List.getElem?_map, List.getElem?_eq_getElem hj]; rfl
    have C := Lib.hid (Tryz.slices_Clone_string g 0 c.asked.length cap (c.asked.map str) W (by rw [List.length_map]; exact Nat.le_refl _) (by omega) hc)
    have hT : (List.take c.asked.length (c.asked.map str)).map Value.string = c.asked.map encS := by
      rw [List.take_of_length_le (by rw [List.length_map]; exact Nat.le_refl _), List.map_map]; rfl
    rw [hT] at C
    clear h hO hc hn hb1 hg hcap hmx hsz htk hT
    go_enter Tryz.func21, Tryz.ntmps21
    go_wp2_with fail
    refine C.out.mono ?_
    rintro e w1 ⟨v, rfl, h1, _, h2⟩
    have HQ := Lib.hid (And.intro h1 h2)
    clear h1 h2
    go_wp2_with fail
    go_ret
    exact ⟨_, rfl, HQ.out⟩
theorem infoStr : (Tryz.prog.info? 9).map (fun i => (i.zero, i.size, i.bytes)) = some (some (.string ⟨#[]⟩), 1, 16) := by kernel_rfl
theorem encS_one (l : List Nm) : ∀ u ∈ l.map encS, u.oneCell' = true := fun u hu => by
  obtain ⟨t, _, rfl⟩ := List.mem_map.1 hu; rfl
set_option maxRecDepth 100000 in
theorem script_m (h : CAt c name d b m sv av W) (l : List Nm) (sa : Option Addr) (k : Nat) (hs : Src (l.map encS) sa W) (hl : c.script.length + l.length ≤ 1000000000000) :
    Calls Tryz.prog 18 #[.pointer (some ⟨b, 0, none⟩), .slice sa l.length k] W fun e W' => e = .returned (.tuple #[]) ∧ ∃ sv', CAt { c with script := c.script ++ l } name d b m sv' av W' ∧ Chg (ftC b m sv av) (ftC b m sv' av) W W' := by
  obtain ⟨⟨_, _, _, c3, _⟩, f⟩ := h.reads
  have f3 := f 3
  have H := Lib.hid (And.intro h (And.intro hs hl))
  have hbl := lt_of h.cell
  have hsb : ∀ k, sv.ownBlock = some k → k ≠ b := fun k hk => (h.sb hk).1
  clear h hs hl f
  go_enter Tryz.func18, Tryz.ntmps18
  go_wp2_with (at_builtin; refine wpList_append_of rfl _ _ 38 9 rfl Tryz.underlying38 _ 16 infoStr rfl (by omega) 0 (c.script.map encS) (l.map encS) (by rfl) H.out.1.scr sa l.length k (by rfl) (by rw [List.length_map]) H.out.2.1 (encS_one l) (by rw [List.length_map, List.length_map]; exact H.out.2.2) (Nat.zero_le _) ?_; intro v' W' q1 q2 q3; rw [← List.map_append] at q1; have hch : Chg (fun k => sv.ownBlock = some k) (fun k => v'.ownBlock = some k) W W' := ⟨q2.os, q2.tape, q2.output, q2.size, fun k hk hn => q2.block k hk (fun e => hn e.symm), fun k hk => by rcases q3 with e | e; exact Or.inl (e ▸ hk); exact Or.inr (by rw [e] at hk; cases hk; exact Nat.le_refl _)⟩; have HN := Lib.hid (H.out.1.newScript hch q1); have e1 : W'.frozen? ⟨b, 3, none⟩ = false := (World.frozen?_of_block (a := ⟨b, 3, none⟩) (hch.block b hbl (fun e => hsb b e rfl))).trans f3; have e2 : W'.cell? ⟨b, 3, none⟩ = some sv := (World.cell?_of_block (a := ⟨b, 3, none⟩) (hch.block b hbl (fun e => hsb b e rfl))).trans c3; obtain ⟨a', c', hf⟩ := q1.form; rw [List.length_map] at hf; clear q1 q2 q3 hch; generalize (c.script ++ l).length = n' at hf; subst hf)
  go_end0
  exact ⟨rfl, _, HN.out⟩
end
theorem own_two (W : World) (s t : Nm) : SlF (fun k => W.heap.size ≤ k ∧ k < W.heap.size + 1) (.text s (.text t .nil)) (.slice (some ⟨W.heap.size, 0, none⟩) 2 2) (W.alloc (.cells #[.bool false, .string (str s), .slice none 0 0, .bool false, .string (str t), .slice none 0 0] 198)) := by
  have h := (own_lit W (.text s (.text t .nil)) #[.bool false, .string (str s), .slice none 0 0, .bool false, .string (str t), .slice none 0 0] ⟨_, rfl, _, rfl, rfl⟩ 2 rfl (by omega)).sl
  rwa [alloc_size] at h
set_option maxRecDepth 100000 in
set_option maxHeartbeats 1000000 in
theorem ftext_c {a : AskP} {r : ReplyP} (ha : a.Key) (hw : r.Wf) (ho : r.Ok a.kind) (w : World) : Calls Tryz.prog 176 #[askV a, replyV r] w fun e w' => e = .returned (.string (str (recE a r))) ∧ Below w.heap.size w w' := by
  have K1 := Lib.hid ((AskB.start w a))
  have K2 := Lib.hid (RepB.start (w.alloc (.cells (askCells a) 117)) r)
  have P1 := Lib.hid (fun W => putAsk_c ha.1 W)
  have P2 := Lib.hid (fun W => putReply_c a.kind hw W)
  rw [putAskV_ok ha.2.1] at P1
  rw [putReplyV_ok ho] at P2
  have hl := recF_len ha hw ho
  have C1 := Lib.hid (fun W => listS_c _ (recF a r) _ _ (own_two W a.enc (r.enc a.kind)) (fun k hk => by rw [alloc_size]; exact hk.2) (by simp [recF, Fo.siz]))
  have C2 := Lib.hid (fun (T : Nat → Prop) u W (hT : ∀ k, T k → k < W.heap.size) (hu : ItV T (.list (recF a r)) u W) => encode_c T (.list (recF a r)) u W hT hu (by have := (It.list (recF a r)).evs_len; have := It.list_len (recF a r) (by omega); omega) (by have := It.list_len (recF a r) (by omega); omega))
  rw [show (It.list (recF a r)).enc = recE a r from rfl] at C2
  clear hl ha hw ho
  have A0 : AskB w a ((w.alloc (.cells (askCells a) 117)).alloc (.cells (replyCells r) 119)) := K1.out.call ((Below.refl _ _).alloc (Nat.le_refl _) _)
  obtain ⟨a0, a1, a2, a3, a4, a5, a6⟩ := A0.cells
  have HA := Lib.hid A0
  clear A0
  unfold askV replyV
  unfold askCells replyCells at *
  go_enter Tryz.func176, Tryz.ntmps176
  go_wp2_with fail
  refine (P1.out _).mono ?_
  rintro e V1 ⟨rfl, hb1⟩
  clear a0 a1 a2 a3 a4 a5 a6
  have A1 := HA.out.call hb1
  have R1 := K2.out.call hb1
  obtain ⟨a0, a1, a2, a3, a4, a5, a6⟩ := A1.cells
  obtain ⟨r0, r1, r2, r3, r4, r5, r6, r7, r8, r9, r10⟩ := R1.cells
  rw [alloc_size] at r0 r1 r2 r3 r4 r5 r6 r7 r8 r9 r10
  have H1 := Lib.hid A1.1
  clear A1 R1 HA K1 K2 hb1
  go_wp2_with fail
  refine (P2.out _).mono ?_
  rintro e V2 ⟨rfl, hb2⟩
  clear a0 a1 a2 a3 a4 a5 a6 r0 r1 r2 r3 r4 r5 r6 r7 r8 r9 r10
  have H2 := Lib.hid (H1.out.trans (hb2.mono H1.out.size))
  clear hb2 H1 P1 P2
  go_wp2_with fail
  refine (text_c _ _).mono ?_
  unfold textV
  rintro e V3 ⟨rfl, hb3⟩
  have H3 := Lib.hid (H2.out.trans (hb3.mono H2.out.size))
  clear hb3 H2
  go_wp2_with fail
  refine (text_c _ _).mono ?_
  unfold textV
  rintro e V4 ⟨rfl, hb4⟩
  have H4 := Lib.hid (H3.out.trans (hb4.mono H3.out.size))
  clear hb4 H3
  go_wp2_with fail
  refine (C1.out _).mono ?_
  rintro e V5 ⟨u, rfl, hu, hb5⟩
  have H5 := Lib.hid (And.intro hu (H4.out.trans (((Below.refl _ _).alloc (Nat.le_refl _) _ : Below V4.heap.size V4 (V4.alloc (.cells #[.bool false, .string (str a.enc), .slice none 0 0, .bool false, .string (str (r.enc a.kind)), .slice none 0 0] 198))).trans (hb5.mono (by simp)) |>.mono H4.out.size)))
  have hsz := hb5.size
  rw [alloc_size] at hsz
  have HZ := Lib.hid hsz
  clear hb5 hu H4 C1 hsz
  go_wp2_with fail
  refine (C2.out _ _ _ (fun k hk => by have := HZ.out; rcases hk with hk | hk; omega; exact hk.2) H5.out.1).mono ?_
  rintro e V6 ⟨rfl, hb6⟩
  have H6 := Lib.hid (H5.out.2.trans (hb6.mono H5.out.2.size))
  clear hb6 H5 C2
  go_wp2_with fail
  go_ret
  exact ⟨rfl, H6.out⟩
end Go.Proofs.YtekoaheiapddiaaGreat.Dz
end
