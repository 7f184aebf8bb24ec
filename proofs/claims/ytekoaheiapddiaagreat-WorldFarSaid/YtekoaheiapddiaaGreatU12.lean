/- Merged: Lm, Lo, Lp, Ln. -/
import Derived.Test.YtekoaheiapddiaaGreatU11
import Derived.Lib.Builder
import Derived.Lib.AppendStr
import Derived.Lib.UnsafeStr
import Derived.Lib.MakeNoZero
import Derived.Laws.Externs
import Derived.Laws.IdiomCopy
import Derived.StillTailTactics
import Derived.Deep.QuietTactic
import Derived.BigQuiet
section
namespace Go.Proofs.YtekoaheiapddiaaGreat
open Go.RowKit

/-- The types of the two structs. -/
def Hold (T : TypeId) : Prop := T = 339 ∨ T = 339
theorem Hold.lies {T : TypeId} (h : Hold T) : liesAt Tryz.prog Tryz.prog.depth T (3 / Tryz.prog.cellsOf T) 0 337 1 = true := by
  rcases h with rfl | rfl <;> kernel_rfl
theorem sizeBuilder : (Tryz.prog.info? 337).map (·.size) = some 2 := by kernel_rfl
/-- The builder in block b holds the bytes bs; x lies behind it; its row lies from block B on. -/
structure BdS (T : TypeId) (b B : Nat) (bs : List UInt8) (x : Value) (W : World) : Prop where
  lt : b < B
  row : ∃ pv v, W.heap[b]? = some (.cells #[pv, v, x] T (0, 0)) ∧ (pv = .pointer none ∨ pv = .pointer (some ⟨b, 0, none⟩)) ∧ W.ownsRow B 5 1 v bs.length (Lib.byteCells bs)
def BdF (b : Nat) (W : World) (k : Nat) : Prop := k = b ∨ ∃ v, W.cell? ⟨b, 1, none⟩ = some v ∧ v.ownBlock = some k
set_option maxRecDepth 100000 in
theorem check_fresh {T : TypeId} (hT : Hold T) (b : Nat) (v x : Value) (W : World) (h : W.heap[b]? = some (.cells #[.pointer none, v, x] T (0, 0))) :
    Calls Tryz.prog 274 #[.pointer (some ⟨b, 0, none⟩)] W fun e W' => e = .returned (.tuple #[]) ∧ W' = W.setCell ⟨b, 0, none⟩ (.pointer (some ⟨b, 0, none⟩)) := by
  obtain ⟨j, hj, hjs⟩ := Option.map_eq_some_iff.1 sizeBuilder
  have c0 : W.cell? ⟨b, 0, none⟩ = some (.pointer none) := cell_of h 0
  have z0 := free_of h 0
  have hsh : W.shape? b = some (T, 3) := by simp [World.shape?, h]
  have hu := Lib.run_to_unsafe (P := Tryz.prog) W ⟨b, 0, none⟩ Tryz.underlying335 Tryz.underlying360 hj (by rw [hjs]; decide) hsh (Nat.zero_lt_succ 2)
  have hf := Lib.run_from_unsafe (P := Tryz.prog) W ⟨b, 0, none⟩ Tryz.underlying360 Tryz.underlying335 hj hsh hT.lies
  have hn : (callFunc 278 #[.pointer (some ⟨b, 0, none⟩)]).run Tryz.prog W = .ok (.value (.pointer (some ⟨b, 0, none⟩))) W := by
    rw [run_callFunc_extern Tryz.func278 (by kernel_rfl) (by kernel_rfl) (by kernel_rfl) (e := Extern.AbiNoEscape.same) (by kernel_rfl), Lib.run_noEscape]
    rfl
  clear hsh hj hjs h
  go_enter Tryz.func274, Tryz.ntmps274
  go_wp2_with fail
  go_end0
  exact ⟨rfl, rfl⟩
set_option maxRecDepth 100000 in
theorem check_used {T : TypeId} (b : Nat) (v x : Value) (W : World) (h : W.heap[b]? = some (.cells #[.pointer (some ⟨b, 0, none⟩), v, x] T (0, 0))) :
    Calls Tryz.prog 274 #[.pointer (some ⟨b, 0, none⟩)] W fun e W' => e = .returned (.tuple #[]) ∧ W' = W := by
  obtain ⟨j, hj, hjs⟩ := Option.map_eq_some_iff.1 sizeBuilder
  have c0 : W.cell? ⟨b, 0, none⟩ = some (.pointer (some ⟨b, 0, none⟩)) := cell_of h 0
  have hq := fun w => Lib.run_neq_ptr_same (P := Tryz.prog) w ⟨b, 0, none⟩ Tryz.underlying335 hj
  clear hj hjs h
  go_enter Tryz.func274, Tryz.ntmps274
  go_wp2_with fail
  go_end0
  exact ⟨rfl, rfl⟩
/-- Behind copyCheck: the builder's own address lies there. -/
theorem check_c {T : TypeId} (hT : Hold T) (b : Nat) (pv v x : Value) (W : World) (h : W.heap[b]? = some (.cells #[pv, v, x] T (0, 0))) (hp : pv = .pointer none ∨ pv = .pointer (some ⟨b, 0, none⟩)) :
    Calls Tryz.prog 274 #[.pointer (some ⟨b, 0, none⟩)] W fun e W' => e = .returned (.tuple #[]) ∧ W'.heap[b]? = some (.cells #[.pointer (some ⟨b, 0, none⟩), v, x] T (0, 0)) ∧ (∀ k, k ≠ b → W'.heap[k]? = W.heap[k]?) ∧ W'.heap.size = W.heap.size ∧ W'.os = W.os ∧ W'.tape = W.tape ∧ W'.output = W.output := by
  rcases hp with rfl | rfl
  · refine (check_fresh hT b v x W h).mono ?_
    rintro e W' ⟨rfl, rfl⟩
    exact ⟨rfl, by simpa using heap_setCell_same _ _ 0 _ _ (.pointer (some ⟨b, 0, none⟩)) h, fun k hk => heap_setCell_other _ _ _ _ (by simpa using hk), by simp [World.setCell], rfl, rfl, rfl⟩
  · refine (check_used b v x W h).mono ?_
    rintro e W' ⟨rfl, rfl⟩
    exact ⟨rfl, h, fun _ _ => rfl, rfl, rfl, rfl, rfl⟩
theorem infoByte : (Tryz.prog.info? 5).map (fun i => (i.zero, i.size, i.bytes)) = some (some (.int .u8 0), 1, 1) := by kernel_rfl
/-- A new buffer, laid into the builder. -/
theorem BdS.put {T : TypeId} {b B : Nat} {bs' : List UInt8} {pv v v' x : Value} {W W1 W2 : World} (hlt : b < B) (h0 : W.heap[b]? = some (.cells #[pv, v, x] T (0, 0))) (hv : ∀ k, v.ownBlock = some k → B ≤ k ∧ k < W.heap.size)
    (h1 : W1.heap[b]? = some (.cells #[.pointer (some ⟨b, 0, none⟩), v, x] T (0, 0))) (hk : ∀ k, k ≠ b → W1.heap[k]? = W.heap[k]?) (hs : W1.heap.size = W.heap.size) (hos : W1.os = W.os) (ht : W1.tape = W.tape) (hout : W1.output = W.output)
    {o : Option Obj} (hg : (match o with | some o => W1.alloc o | none => W1).grownBy W2 v.ownBlock) (hbl : v'.ownBlock = v.ownBlock ∨ ∃ k, v'.ownBlock = some k ∧ W1.heap.size ≤ k) (hown : W2.ownsRow B 5 1 v' bs'.length (Lib.byteCells bs')) :
    BdS T b B bs' x (W2.setCell ⟨b, 1, none⟩ v') ∧ Chg (BdF b W) (BdF b (W2.setCell ⟨b, 1, none⟩ v')) W (W2.setCell ⟨b, 1, none⟩ v') ∧ W2.heap[b]? = some (.cells #[.pointer (some ⟨b, 0, none⟩), v, x] T (0, 0)) := by
  have hbl0 : b < W.heap.size := lt_of h0
  have hk2 : ∀ k, k < W.heap.size → v.ownBlock ≠ some k → W2.heap[k]? = W1.heap[k]? := by
    intro k h3 h4
    cases o with
    | none => exact hg.block k (by rw [hs]; exact h3) (fun e => h4 e.symm)
    | some o => exact (hg.block k (by simp; omega) (fun e => h4 e.symm)).trans (Below.heap_alloc _ _ _ (by omega))
  have hsz : W.heap.size ≤ W2.heap.size := by
    have := hg.size
    cases o with
    | none => simp only at this; omega
    | some o => simp at this; omega
  have hbv : v.ownBlock ≠ some b := fun e => by have := (hv b e).1; omega
  have h2b := (hk2 b hbl0 hbv).trans h1
  have hfin : (W2.setCell ⟨b, 1, none⟩ v').heap[b]? = some (.cells #[.pointer (some ⟨b, 0, none⟩), v', x] T (0, 0)) := by simpa using heap_setCell_same _ _ 1 _ _ v' h2b
  have hos2 : W2.os = W.os ∧ W2.tape = W.tape ∧ W2.output = W.output := by
    cases o with
    | none => exact ⟨hg.os.trans hos, hg.tape.trans ht, hg.output.trans hout⟩
    | some o => exact ⟨hg.os.trans hos, hg.tape.trans ht, hg.output.trans hout⟩
  refine ⟨⟨hlt, _, v', hfin, Or.inr rfl, own_keep hown fun k hk => heap_setCell_other _ _ _ _ (by have := (hown.lt k hk).1; simp; omega)⟩, ⟨hos2.1, hos2.2.1, hos2.2.2, by simpa [World.setCell] using hsz, fun k h3 h4 => ?_, fun k h3 => ?_⟩, h2b⟩
  · have hkb : k ≠ b := fun e => h4 (Or.inl e)
    rw [heap_setCell_other _ _ _ _ (by simpa using hkb), hk2 k h3 (fun e => h4 (Or.inr ⟨v, cell_of h0 1, e⟩)), hk k hkb]
  · rcases h3 with rfl | ⟨u, hu, h3⟩
    · exact Or.inl (Or.inl rfl)
    · rw [cell_of hfin] at hu
      obtain rfl : v' = u := by simpa using hu
      rcases hbl with h5 | ⟨k', h5, h6⟩
      · exact Or.inl (Or.inr ⟨v, cell_of h0 1, by rw [← h5]; exact h3⟩)
      · rw [h5] at h3; injection h3 with h3; right; omega
/-- A text behind a row of bytes of the call's own: where the new row lies. -/
theorem wpList_append_text {ops : Array Oper} {rest : List Oper} {o : Oper} {a : Act} {Q : Exit → Act → World → Prop} {W : World} (hgd : o.guard = none) (sl x : Operand)
    (ho : o.op = .call { callee := .builtin .append, args := #[sl, x], argTypes := #[218, 9] }) (B : Nat) (v : Value) (n : Nat) (xs : List Value) (hs : a.eval sl = v) (hown : W.ownsRow B 5 1 v n xs) (s : ByteArray) (hx : a.eval x = .string s)
    (hbytes : n + s.size ≤ 140737488355328) (hB : B ≤ W.heap.size)
    (h : ∀ v' W', W'.ownsRow B 5 1 v' (n + s.size) (xs ++ Lib.strCells s) → W.grownBy W' v.ownBlock → (v'.ownBlock = v.ownBlock ∨ v'.ownBlock = some W.heap.size) → wpList Tryz.prog ops Q rest (a.put o.dst v') W') : wpList Tryz.prog ops Q (o :: rest) a W := by
  obtain ⟨i0, hi, hz0, hz1, hz2⟩ := info_parts infoByte
  refine wpList_plain hgd fun K hK => ?_
  obtain ⟨v', w', hr, h2, h3, h4⟩ := Lib.run_append_own_string (P := Tryz.prog) W B 218 9 o.type 5 i0 Tryz.underlying218 Tryz.underlying9 hi hz0 hz1 hz2 v n xs hown s (by unfold maxLen; omega) hbytes hB
  have hl : v'.ownBlock = v.ownBlock ∨ v'.ownBlock = some W.heap.size := by
    rcases hown.2 with ⟨rfl, rfl⟩ | ⟨g, cap, cur, rfl, hbg, hg, hnc, _, hcs, _⟩
    · by_cases hm : s.size = 0
      · left; rw [h4.2 ⟨rfl, hm⟩]
      · have e := hr.symm.trans (run_append_nil_string (P := Tryz.prog) W 218 9 o.type 5 i0 _ Tryz.underlying218 Tryz.underlying9 hi hz0 s (by omega) (by omega) (by rw [hz2]; omega))
        injection e with e _
        right; rw [e]; rfl
    · by_cases hroom : n + s.size ≤ cap
      · have e := hr.symm.trans (Lib.run_append_room_string (P := Tryz.prog) W 218 9 o.type 5 i0 Tryz.underlying218 Tryz.underlying9 hi hz1 g n cap cur hg s hroom (by omega))
        injection e with e _
        left; rw [e]; rfl
      · have e := hr.symm.trans (Lib.run_append_grow_string (P := Tryz.prog) W 218 9 o.type 5 i0 _ Tryz.underlying218 Tryz.underlying9 hi hz0 ⟨g, 0, none⟩ n cap xs (by rw [hz1]; exact hown.1) (hown.cells rfl) s (by omega) (by omega) (by rw [hz2]; exact growslice_fits (by omega) (by omega)))
        injection e with e _
        right; rw [e]; rfl
  unfold Oper.wp execOp
  simp only [ho, resolve, invoke, builtin, Sem.run_bind, Sem.run_pure, Result.andThen_ok, List.map_toArray, List.map_cons, List.map_nil, hs, hx, hr]
  exact hK _ _ (h v' w' h2 h3 hl)
theorem strCells_str (l : List UInt8) : Lib.strCells (str l) = Lib.byteCells l := by rw [Lib.strCells_eq]; rfl
set_option maxRecDepth 100000 in
set_option maxHeartbeats 1000000 in
theorem wstring_c {T : TypeId} (hT : Hold T) {b B : Nat} {bs : List UInt8} {x : Value} {W : World} (h : BdS T b B bs x W) (s : List UInt8) (hn : bs.length + s.length ≤ 100000000000000) (hB : B ≤ W.heap.size) :
    Calls Tryz.prog 276 #[.pointer (some ⟨b, 0, none⟩), .string (str s)] W fun e W' => (∃ n, e = .returned (.tuple #[.int .i64 n, .nilIface])) ∧ BdS T b B (bs ++ s) x W' ∧ Chg (BdF b W) (BdF b W') W W' := by
  obtain ⟨pv, v, h1, hp, h2⟩ := h.row
  obtain ⟨i0, hi, hz0, hz1, hz2⟩ := info_parts infoByte
  have HI := Lib.hid (And.intro hi (And.intro hz0 (And.intro hz1 hz2)))
  have H := Lib.hid (And.intro h.lt (And.intro h1 h2))
  have HC := Lib.hid (check_c hT b pv v x W h1 hp)
  have hs := str_size s
  have HS := Lib.hid (strCells_str s)
  obtain ⟨va, vc, rfl⟩ := own_any h2
  clear h h1 h2 hp hi hz0 hz1 hz2
  generalize str s = y at *
  go_enter Tryz.func276, Tryz.ntmps276
  go_wp2_with (first
    | (go_at_call 274; refine HC.out.mono ?_; rintro e W1 ⟨rfl, h1, h2, h3, h4, h5, h6⟩; have c1 : W1.cell? ⟨b, 1, none⟩ = some (.slice va bs.length vc) := cell_of h1 1; have H1 := Lib.hid (And.intro h1 (And.intro h2 (And.intro h3 (And.intro h4 (And.intro h5 h6))))); clear h1 h2 h3 h4 h5 h6)
    | (at_builtin; refine wpList_append_text (by rfl) _ _ (by rfl) B _ bs.length (Lib.byteCells bs) (by rfl) (own_keep H.out.2.2 (fun k hk => H1.out.2.1 k (fun e => by have := (H.out.2.2.lt k hk).1; have := H.out.1; omega))) y (by rfl) (by omega) (by rw [H1.out.2.2.1]; exact hB) ?_; intro v2 W2 hown2 hgr2 hbl2; obtain ⟨a2, c2, rfl⟩ := own_any hown2; have HZ := Lib.hid (BdS.put (bs' := bs ++ s) (o := none) H.out.1 H.out.2.1 H.out.2.2.lt H1.out.1 H1.out.2.1 H1.out.2.2.1 H1.out.2.2.2.1 H1.out.2.2.2.2.1 H1.out.2.2.2.2.2 hgr2 (hbl2.imp id (fun h => ⟨_, h, Nat.le_refl _⟩)) (by rw [HS.out, ← Lib.byteCells_append] at hown2; rw [List.length_append, ← hs]; exact hown2)); have d1 : W2.cell? ⟨b, 1, none⟩ = some (.slice va bs.length vc) := cell_of HZ.out.2.2 1; have d2 := free_of HZ.out.2.2 1; clear hown2 hgr2 hbl2))
  rw [hs] at HZ
  exact bodyPost_ret (v := .tuple #[.int .i64 (s.length : Nat), .nilIface]) (by simp [results, Tryz.results276, go_sem]) rfl ⟨⟨_, rfl⟩, HZ.out.1, HZ.out.2.1⟩
set_option maxRecDepth 100000 in
set_option maxHeartbeats 1000000 in
theorem bstring_c {T : TypeId} {b B : Nat} {bs : List UInt8} {x : Value} {W : World} (h : BdS T b B bs x W) (h0 : bs ≠ []) (hn : bs.length ≤ 900000000) :
    Calls Tryz.prog 261 #[.pointer (some ⟨b, 0, none⟩)] W fun e W' => e = .returned (.string (str bs)) ∧ Below b W W' := by
  obtain ⟨pv, v, h1, hp, h2⟩ := h.row
  obtain ⟨k, hk⟩ : ∃ k, bs.length = k + 1 := ⟨bs.length - 1, by have := List.length_pos_iff.2 h0; omega⟩
  have h2' := h2
  rw [hk] at h2'
  obtain ⟨g, cap, rfl, hg1, hg2, hg3⟩ := own_form h2'
  have c1 : W.drew.cell? ⟨b, 1, none⟩ = some (.slice (some ⟨g, 0, none⟩) (k + 1) cap) := cell_of (w := W.drew) h1 1
  have hsd : ∀ w : World, (Builtin.unsafeSliceData_ #[218] 274 #[.slice (some ⟨g, 0, none⟩) (k + 1) cap]).run Tryz.prog w = .ok (.pointer (some ⟨g, 0, none⟩)) w := fun w => Lib.run_unsafeSliceData_row w _ _ _ _ _ (by omega)
  have hus : (Builtin.unsafeString_ #[274, 3] 9 #[.pointer (some ⟨g, 0, none⟩), .int .i64 ((k : Int) + 1)]).run Tryz.prog W.drew = .ok (.string (str bs)) (W.drew.freeze ⟨g, 0, none⟩ bs.length) := by
    have hc : ∀ cur : Array Value, ∀ n, cur.size = n * 1 → cur.size = n := fun cur n h => by omega
    rcases h2'.2 with ⟨h0, _⟩ | ⟨g', cap', cur, e, _, hgg, hnc, _, hcs, _⟩
    · cases h0
    · cases e
      have h := Lib.run_unsafeString_row (P := Tryz.prog) W.drew 274 3 9 5 Tryz.underlying274 (by kernel_rfl) g cap (by have e : W.drew.heap[g]? = _ := hgg; simp [World.shape?, e, hcs]) bs h0 (by omega) (by omega) (fun j u hj => by
        have h3 := h2.cells (g := g) rfl j (.int .u8 u.toNat) (by simp [Lib.byteCells, hj])
        exact h3)
      rw [hk] at h
      rw [show ((k : Int) + 1) = ((k + 1 : Nat) : Int) by omega, hk]
      exact h
  have HB := Lib.hid (show Below b W (W.drew.freeze ⟨g, 0, none⟩ bs.length) from Lib.below_freeze (p := ⟨g, 0, none⟩) (Below.refl b W).drew (by have := h.lt; show b ≤ g; omega) _)
  generalize hz : W.drew.freeze ⟨g, 0, none⟩ bs.length = W2 at *
  have HZ := Lib.hid hz
  clear h h1 h2 h2' hp hz hk h0 hn
  generalize str bs = y at *
  go_enter Tryz.func261, Tryz.ntmps261
  go_wp2_with fail
  go_still_tail 10, (by kernel_rfl)
  change wpList _ _ _ _ _ W.drew
  go_wp2_with fail
  go_ret
  exact ⟨rfl, HB.out⟩
end Go.Proofs.YtekoaheiapddiaaGreat
end
section
namespace Go.Proofs.YtekoaheiapddiaaGreat
open Go.RowKit

/-- The writer in block b: it has written the bytes s.1; the sizes s.2 are still to come, they lie in block gz. -/
structure WrS (b B gz : Nat) (s : List UInt8 × List Nat) (W : World) : Prop where
  hgz : gz < B ∧ gz ≠ b ∧ gz < W.heap.size
  bd : ∃ o c, BdS 339 b B s.1 (.slice (some ⟨gz, o, none⟩) s.2.length c) W ∧ s.2.length ≤ c ∧ ∀ j (h : j < s.2.length), W.cell? ⟨gz, o + j, none⟩ = some (.int .i64 ((s.2[j]'h : Nat) : Int))
def WrF (b gz : Nat) (W : World) (k : Nat) : Prop := BdF b W k ∨ k = gz
theorem BdS.blt {T : TypeId} {b B : Nat} {bs : List UInt8} {x : Value} {W : World} (h : BdS T b B bs x W) : b < W.heap.size := by
  obtain ⟨pv, v, h1, _⟩ := h.row
  exact lt_of h1
theorem BdS.ftlt {T : TypeId} {b B : Nat} {bs : List UInt8} {x : Value} {W : World} (h : BdS T b B bs x W) : ∀ k, BdF b W k → k < W.heap.size ∧ (k = b ∨ B ≤ k) := by
  intro k hk
  obtain ⟨pv, v, h1, _, h2⟩ := h.row
  rcases hk with rfl | ⟨u, hu, hk⟩
  · exact ⟨lt_of h1, Or.inl rfl⟩
  · rw [cell_of h1] at hu
    obtain rfl : v = u := by simpa using hu
    exact ⟨(h2.lt k hk).2, Or.inr (h2.lt k hk).1⟩
theorem BdS.kept {T : TypeId} {b B : Nat} {bs : List UInt8} {x : Value} {W W' : World} (h : BdS T b B bs x W) (hk : ∀ k, BdF b W k → W'.heap[k]? = W.heap[k]?) : BdS T b B bs x W' ∧ ∀ k, BdF b W' k ↔ BdF b W k := by
  obtain ⟨pv, v, h1, hp, h2⟩ := h.row
  have hb := hk b (Or.inl rfl)
  have hc : W'.cell? ⟨b, 1, none⟩ = W.cell? ⟨b, 1, none⟩ := World.cell?_of_block hb
  refine ⟨⟨h.lt, pv, v, hb.trans h1, hp, own_keep h2 fun k hv => hk k (Or.inr ⟨v, cell_of h1 1, hv⟩)⟩, fun k => ?_⟩
  unfold BdF
  rw [hc]
theorem BdS.calm {T : TypeId} {b B : Nat} {bs : List UInt8} {x : Value} {W W' : World} (h : BdS T b B bs x W) (hb : Below W.heap.size W W') : BdS T b B bs x W' ∧ Chg (BdF b W) (BdF b W') W W' := by
  obtain ⟨h1, h2⟩ := h.kept fun k hk => hb.block k (h.ftlt k hk).1
  exact ⟨h1, hb.os, hb.tape, hb.output, hb.size, fun k hk _ => hb.block k hk, fun k hk => Or.inl ((h2 k).1 hk)⟩
theorem WrS.kept {b B gz : Nat} {s : List UInt8 × List Nat} {W W' : World} (h : WrS b B gz s W) (hk : ∀ k, WrF b gz W k → W'.heap[k]? = W.heap[k]?) (hs : W.heap.size ≤ W'.heap.size) : WrS b B gz s W' ∧ ∀ k, WrF b gz W' k ↔ WrF b gz W k := by
  obtain ⟨o, c, h1, h2, h3⟩ := h.bd
  obtain ⟨g1, g2⟩ := h1.kept fun k hf => hk k (Or.inl hf)
  refine ⟨⟨⟨h.hgz.1, h.hgz.2.1, Nat.lt_of_lt_of_le h.hgz.2.2 hs⟩, o, c, g1, h2, fun j hj => (World.cell?_of_block (hk gz (Or.inr rfl))).trans (h3 j hj)⟩, fun k => ?_⟩
  unfold WrF
  rw [g2]
theorem WrS.ftlt {b B gz : Nat} {s : List UInt8 × List Nat} {W : World} (h : WrS b B gz s W) : ∀ k, WrF b gz W k → k < W.heap.size := by
  obtain ⟨o, c, h1, _⟩ := h.bd
  intro k hk
  rcases hk with hk | rfl
  · exact (h1.ftlt k hk).1
  · exact h.hgz.2.2
/-- What WriteString does, said of the writer. -/
theorem WrS.wrote {b B gz o c : Nat} {bs bs' : List UInt8} {zs : List Nat} {W W' : World} (hg : gz < B ∧ gz ≠ b ∧ gz < W.heap.size) (h0 : BdS 339 b B bs (.slice (some ⟨gz, o, none⟩) zs.length c) W) (hc : zs.length ≤ c) (h3 : ∀ j (h : j < zs.length), W.cell? ⟨gz, o + j, none⟩ = some (.int .i64 ((zs[j]'h : Nat) : Int)))
    (h1 : BdS 339 b B bs' (.slice (some ⟨gz, o, none⟩) zs.length c) W') (h2 : Chg (BdF b W) (BdF b W') W W') : WrS b B gz (bs', zs) W' ∧ Chg (WrF b gz W) (WrF b gz W') W W' := by
  have hgz : W'.heap[gz]? = W.heap[gz]? := h2.block gz hg.2.2 (fun hf => by have := (h0.ftlt gz hf).2; omega)
  refine ⟨⟨⟨hg.1, hg.2.1, Nat.lt_of_lt_of_le hg.2.2 h2.size⟩, o, c, h1, hc, fun j hj => (World.cell?_of_block hgz).trans (h3 j hj)⟩, h2.os, h2.tape, h2.output, h2.size, fun k hk hn => h2.block k hk (fun hf => hn (Or.inl hf)), fun k hk => ?_⟩
  rcases hk with hk | rfl
  · exact (h2.new k hk).imp (fun h => Or.inl h) id
  · exact Or.inl (Or.inr rfl)
set_option maxRecDepth 100000 in
set_option maxHeartbeats 2000000 in
theorem wrtext_c {b B gz : Nat} {out : List UInt8} {zs : List Nat} {W : World} (h : WrS b B gz (out, zs) W) (t : List UInt8) (hn : out.length + (encT t).length ≤ 100000000000) (hB : B ≤ W.heap.size) :
    Calls Tryz.prog 259 #[.pointer (some ⟨b, 0, none⟩), .string (str t)] W fun e W' => e = .returned (.tuple #[]) ∧ WrS b B gz (out ++ encT t, zs) W' ∧ Chg (WrF b gz W) (WrF b gz W') W W' := by
  obtain ⟨o, c, h1, h2, h3⟩ := h.bd
  have hl := encT_len t
  have HT := Lib.hid (fun W => headOf_c t (by omega) W)
  have HW1 := Lib.hid (fun W1 (h1 : BdS 339 b B out (.slice (some ⟨gz, o, none⟩) zs.length c) W1) hB => wstring_c (Or.inl rfl) h1 (hdT t) (by omega) hB)
  have HW2 := Lib.hid (fun W1 (h1 : BdS 339 b B (out ++ hdT t) (.slice (some ⟨gz, o, none⟩) zs.length c) W1) hB => wstring_c (Or.inl rfl) h1 t (by simp; omega) hB)
  have H := Lib.hid (And.intro h.hgz (And.intro h1 (And.intro h2 (And.intro h3 hB))))
  have HE := Lib.hid (show out ++ encT t = (out ++ hdT t) ++ t by simp [encT])
  clear h h1 h2 h3 hB hl hn
  generalize str t = x at *
  generalize str (hdT t) = y at *
  go_enter Tryz.func259, Tryz.ntmps259
  go_wp2_with fail
  have H0 : True := trivial
  have HS := Lib.hid (fun (V : World) (_ : True) => True.intro)
  refine Drawn.start (fun _ => True) (fun _ => false) (by kernel_rfl) ?_
  refine Drawn.take 0 (some 4) (v := ?_) rfl rfl (by kernel_rfl) (by kernel_rfl) (by kernel_rfl) (by kernel_rfl) (by kernel_rfl) rfl (fun _ _ _ h => h) (Or.inl ⟨rfl, ?_⟩) H0 ?_
  rotate_left
  · intro W hW; have hW := HS.out W hW; go_simp; try with_reducible rfl
  simp only [put_list, List.set]
  refine Drawn.take 1 (some 5) (v := ?_) rfl rfl (by kernel_rfl) (by kernel_rfl) (by kernel_rfl) (by kernel_rfl) (by kernel_rfl) rfl (fun _ _ _ h => h) (Or.inl ⟨rfl, ?_⟩) H0 ?_
  rotate_left
  · intro W hW; have hW := HS.out W hW; go_simp; try with_reducible rfl
  simp only [put_list, List.set]
  refine Drawn.take 2 (some 6) (v := ?_) rfl rfl (by kernel_rfl) (by kernel_rfl) (by kernel_rfl) (by kernel_rfl) (by kernel_rfl) rfl (fun _ _ _ h => h) (Or.inl ⟨rfl, ?_⟩) H0 ?_
  rotate_left
  · intro W hW; have hW := HS.out W hW; go_simp; try with_reducible rfl
  simp only [put_list, List.set]
  refine Drawn.take 3 (some 7) (v := ?_) rfl rfl (by kernel_rfl) (by kernel_rfl) (by kernel_rfl) (by kernel_rfl) (by kernel_rfl) rfl (fun _ _ _ h => h) (Or.inl ⟨rfl, ?_⟩) H0 ?_
  rotate_left
  · intro W hW; have hW := HS.out W hW; go_simp; try with_reducible rfl
  simp only [put_list, List.set]
  refine Drawn.only 4 (by kernel_rfl) rfl rfl (fun K hK => ?_)
  go_simp
  refine (HT.out _).mono ?_
  rintro e W1 ⟨rfl, hb1⟩
  have H1 := Lib.hid (H.out.2.1.calm (W' := W1) ⟨hb1.os, hb1.tape, hb1.output, hb1.size, hb1.block⟩)
  clear hb1
  refine hK _ _ (fun _ _ => trivial) ?_
  clear hK K
  try simp only [put_list, List.set]
  refine Drawn.only 5 (by kernel_rfl) rfl rfl (fun K hK => ?_)
  go_simp
  refine (HW1.out _ H1.out.1 (Nat.le_trans H.out.2.2.2.2 H1.out.2.size)).mono ?_
  rintro e W2 ⟨⟨n, rfl⟩, h2, h3⟩
  have H2 := Lib.hid (And.intro h2 (H1.out.2.trans h3))
  clear h2 h3
  refine hK _ _ (fun _ _ => trivial) ?_
  clear hK K
  refine Drawn.done (by kernel_rfl) ?_ _
  try simp only [put_list, List.set]
  go_wp2_with (go_at_call 276; refine (HW2.out _ H2.out.1 (Nat.le_trans H.out.2.2.2.2 H2.out.2.size)).mono ?_; rintro e W3 ⟨⟨n, rfl⟩, h2, h3⟩; have H3 := Lib.hid (WrS.wrote H.out.1 H.out.2.1 H.out.2.2.1 H.out.2.2.2.1 h2 (H2.out.2.trans h3)); clear h2 h3)
  go_end0
  rw [HE.out]
  exact ⟨rfl, H3.out⟩
theorem BdS.setX {T : TypeId} {b B : Nat} {bs : List UInt8} {x : Value} {W : World} (h : BdS T b B bs x W) (x' : Value) : BdS T b B bs x' (W.setCell ⟨b, 2, none⟩ x') ∧ Chg (BdF b W) (BdF b (W.setCell ⟨b, 2, none⟩ x')) W (W.setCell ⟨b, 2, none⟩ x') := by
  obtain ⟨pv, v, h1, hp, h2⟩ := h.row
  have hlt := h.lt
  have h1' : (W.setCell ⟨b, 2, none⟩ x').heap[b]? = some (.cells #[pv, v, x'] T (0, 0)) := by simpa using heap_setCell_same _ _ 2 _ _ x' h1
  have hk : ∀ k, k ≠ b → (W.setCell ⟨b, 2, none⟩ x').heap[k]? = W.heap[k]? := fun k hk => heap_setCell_other _ _ _ _ (by simpa using hk)
  refine ⟨⟨hlt, pv, v, h1', hp, own_keep h2 fun k hv => hk k (by have := (h2.lt k hv).1; omega)⟩, rfl, rfl, rfl, by simp [World.setCell], fun k _ hn => hk k (fun e => hn (Or.inl e)), fun k hf => Or.inl ?_⟩
  rcases hf with rfl | ⟨u, hu, hf⟩
  · exact Or.inl rfl
  · rw [cell_of h1'] at hu
    exact Or.inr ⟨u, by rw [cell_of h1]; exact hu, hf⟩
theorem slice_one_int (g o k c : Nat) (W : World) : (Instr.slice 261 (.slice (some ⟨g, o, Option.none⟩) (k + 1) c) (some (.int .i64 1)) Option.none Option.none).run Tryz.prog W = .ok (.slice (some ⟨g, if c = 1 then o else o + 1, Option.none⟩) k (c - 1)) W := by
  have he : (sizeOf (Tryz.prog.elem 261)).run Tryz.prog W = .ok 1 W := by kernel_rfl
  rw [run_slice_l W 261 (some ⟨g, o, Option.none⟩) (k + 1) c (by rw [Tryz.underlying261]; kernel_rfl) .i64 1 (by omega) (by omega), he]
  simp only [Result.andThen_ok]
  unfold sliced
  have h1 : Int.toNat 1 = 1 := rfl
  rw [h1]
  by_cases h : c = 1
  · rw [if_pos h, if_pos h]; rfl
  · rw [if_neg h, if_neg h]
    have e : (⟨g, o, Option.none⟩ : Addr).add (1 * 1) = ⟨g, o + 1, Option.none⟩ := by unfold Addr.add; split <;> simp_all
    simp [e]
set_option maxRecDepth 100000 in
set_option maxHeartbeats 2000000 in
theorem wrbegin_c {b B gz : Nat} {out : List UInt8} {n : Nat} {zs : List Nat} {W : World} (h : WrS b B gz (out, n :: zs) W) (hn : out.length + (hd 192 n).length ≤ 100000000000) (hnn : n < 1000000000000) (hB : B ≤ W.heap.size) :
    Calls Tryz.prog 258 #[.pointer (some ⟨b, 0, none⟩)] W fun e W' => e = .returned (.tuple #[]) ∧ WrS b B gz (out ++ hd 192 n, zs) W' ∧ Chg (WrF b gz W) (WrF b gz W') W W' := by
  obtain ⟨o, c, h1, h2, h3⟩ := h.bd
  have HT := Lib.hid (fun W => (show Calls Tryz.prog 273 #[.int .u8 192, .int .i64 (n : Nat)] W _ from hd_c 192 n (Or.inr rfl) (by omega) W))
  have HW1 := Lib.hid (fun W1 (h1 : BdS 339 b B out (.slice (some ⟨gz, o, none⟩) (zs.length + 1) c) W1) hB => wstring_c (Or.inl rfl) h1 (hd 192 n) (by omega) hB)
  have H := Lib.hid (show (gz < B ∧ gz ≠ b ∧ gz < W.heap.size) ∧ BdS 339 b B out (.slice (some ⟨gz, o, none⟩) (zs.length + 1) c) W ∧ zs.length + 1 ≤ c ∧ (∀ j (h : j < (n :: zs).length), W.cell? ⟨gz, o + j, none⟩ = some (.int .i64 (((n :: zs)[j]'h : Nat) : Int))) ∧ B ≤ W.heap.size from ⟨h.hgz, h1, h2, h3, hB⟩)
  have hc : (0 : Int) < (zs.length : Int) + 1 := by omega
  have hc1 : (1 : Int) ≤ (zs.length : Int) + 1 := by omega
  clear h h1 h2 h3 hB hn hnn
  have H0 : W.drew.cell? ⟨b, 2, none⟩ = some (.slice (some ⟨gz, o, none⟩) (zs.length + 1) c) ∧ W.drew.cell? ⟨gz, o, none⟩ = some (.int .i64 (n : Nat)) := by
    obtain ⟨pv, v, h1, _⟩ := H.out.2.1.row
    exact ⟨cell_of (w := W.drew) h1 2, H.out.2.2.2.1 0 (by simp)⟩
  have hsl := slice_one_int gz o zs.length c
  obtain ⟨o2, ho2⟩ : ∃ o2, (if c = 1 then o else o + 1) = o2 := ⟨_, rfl⟩
  rw [ho2] at hsl
  have HO2 := Lib.hid ho2
  clear ho2
  generalize hh : hd 192 n = hb at *
  have HH := Lib.hid hh
  clear hh
  generalize str hb = y at *
  generalize hk : zs.length = k at *
  have HK := Lib.hid hk
  clear hk
  go_enter Tryz.func258, Tryz.ntmps258
  go_wp2_with fail
  have HS := Lib.hid (fun (V : World) (hV : V.cell? ⟨b, 2, none⟩ = some (.slice (some ⟨gz, o, none⟩) (k + 1) c) ∧ V.cell? ⟨gz, o, none⟩ = some (.int .i64 (n : Nat))) => hV)
  refine Drawn.start (fun V => V.cell? ⟨b, 2, none⟩ = some (.slice (some ⟨gz, o, none⟩) (k + 1) c) ∧ V.cell? ⟨gz, o, none⟩ = some (.int .i64 (n : Nat))) (fun _ => false) (by kernel_rfl) ?_
  refine Drawn.take 0 (some 2) (v := ?_) rfl rfl (by kernel_rfl) (by kernel_rfl) (by kernel_rfl) (by kernel_rfl) (by kernel_rfl) rfl (fun _ _ _ h => h) (Or.inl ⟨rfl, ?_⟩) H0 ?_
  rotate_left
  · intro W hW; have hW := HS.out W hW; go_simp; try with_reducible rfl
  simp only [put_list, List.set]
  refine Drawn.take 1 (some 3) (v := ?_) rfl rfl (by kernel_rfl) (by kernel_rfl) (by kernel_rfl) (by kernel_rfl) (by kernel_rfl) rfl (fun _ _ _ h => h) (Or.inl ⟨rfl, ?_⟩) H0 ?_
  rotate_left
  · intro W hW; have hW := HS.out W hW; go_simp; try with_reducible rfl
  simp only [put_list, List.set]
  refine Drawn.take 2 (some 4) (v := ?_) rfl rfl (by kernel_rfl) (by kernel_rfl) (by kernel_rfl) (by kernel_rfl) (by kernel_rfl) rfl (fun _ _ _ h => h) (Or.inl ⟨rfl, ?_⟩) H0 ?_
  rotate_left
  · intro W hW; have hW := HS.out W hW; go_simp; try with_reducible rfl
  simp only [put_list, List.set]
  refine Drawn.take 3 (some 5) (v := ?_) rfl rfl (by kernel_rfl) (by kernel_rfl) (by kernel_rfl) (by kernel_rfl) (by kernel_rfl) rfl (fun _ _ _ h => h) (Or.inl ⟨rfl, ?_⟩) H0 ?_
  rotate_left
  · intro W hW; have hW := HS.out W hW; go_simp; try with_reducible rfl
  simp only [put_list, List.set]
  refine Drawn.take 4 (some 6) (v := ?_) rfl rfl (by kernel_rfl) (by kernel_rfl) (by kernel_rfl) (by kernel_rfl) (by kernel_rfl) rfl (fun _ _ _ h => h) (Or.inl ⟨rfl, ?_⟩) H0 ?_
  rotate_left
  · intro W hW; have hW := HS.out W hW; go_simp; try with_reducible rfl
  simp only [put_list, List.set]
  refine Drawn.take 5 (some 7) (v := ?_) rfl rfl (by kernel_rfl) (by kernel_rfl) (by kernel_rfl) (by kernel_rfl) (by kernel_rfl) rfl (fun _ _ _ h => h) (Or.inl ⟨rfl, ?_⟩) H0 ?_
  rotate_left
  · intro W hW; have hW := HS.out W hW; go_simp; try with_reducible rfl
  simp only [put_list, List.set]
  refine Drawn.take 6 (some 8) (v := ?_) rfl rfl (by kernel_rfl) (by kernel_rfl) (by kernel_rfl) (by kernel_rfl) (by kernel_rfl) rfl (fun _ _ _ h => h) (Or.inl ⟨rfl, ?_⟩) H0 ?_
  rotate_left
  · intro W hW; have hW := HS.out W hW; go_simp; try with_reducible rfl
  simp only [put_list, List.set]
  refine Drawn.take 7 (some 9) (v := ?_) rfl rfl (by kernel_rfl) (by kernel_rfl) (by kernel_rfl) (by kernel_rfl) (by kernel_rfl) rfl (fun _ _ _ h => h) (Or.inl ⟨rfl, ?_⟩) H0 ?_
  rotate_left
  · intro W hW; have hW := HS.out W hW; go_simp; try with_reducible rfl
  simp only [put_list, List.set]
  refine Drawn.take 8 (some 10) (v := ?_) rfl rfl (by kernel_rfl) (by kernel_rfl) (by kernel_rfl) (by kernel_rfl) (by kernel_rfl) rfl (fun _ _ _ h => h) (Or.inl ⟨rfl, ?_⟩) H0 ?_
  rotate_left
  · intro W hW; have hW := HS.out W hW; go_simp; try with_reducible rfl
  simp only [put_list, List.set]
  refine Drawn.only 9 (by kernel_rfl) rfl rfl (fun K hK => ?_)
  go_simp
  refine (HT.out _).mono ?_
  rintro e W1 ⟨rfl, hb1⟩
  have H1 := Lib.hid (H.out.2.1.calm (W' := W1) ⟨hb1.os, hb1.tape, hb1.output, hb1.size, hb1.block⟩)
  have hS1 : W1.cell? ⟨b, 2, none⟩ = some (.slice (some ⟨gz, o, none⟩) (k + 1) c) ∧ W1.cell? ⟨gz, o, none⟩ = some (.int .i64 (n : Nat)) := ⟨(World.cell?_of_block (hb1.block b H.out.2.1.blt)).trans H0.1, (World.cell?_of_block (hb1.block gz H.out.1.2.2)).trans H0.2⟩
  clear hb1
  refine hK _ _ (fun _ _ => hS1) ?_
  clear hK K
  try simp only [put_list, List.set]
  refine Drawn.only 10 (by kernel_rfl) rfl rfl (fun K hK => ?_)
  go_simp
  refine (HW1.out _ H1.out.1 (Nat.le_trans H.out.2.2.2.2 H1.out.2.size)).mono ?_
  rintro e W2 ⟨⟨m, rfl⟩, h2, h3⟩
  have H2 := Lib.hid (And.intro h2 (H1.out.2.trans h3))
  have hgz2 : W2.heap[gz]? = W.heap[gz]? := H2.out.2.block gz H.out.1.2.2 (fun hf => by have := (H.out.2.1.ftlt gz hf).2; have := H.out.1; omega)
  have hS2 : W2.cell? ⟨b, 2, none⟩ = some (.slice (some ⟨gz, o, none⟩) (k + 1) c) ∧ W2.cell? ⟨gz, o, none⟩ = some (.int .i64 (n : Nat)) := by
    obtain ⟨pv, v, h1, _⟩ := h2.row
    exact ⟨cell_of h1 2, (World.cell?_of_block hgz2).trans H0.2⟩
  have c2 := hS2.1
  have z2 : W2.frozen? ⟨b, 2, none⟩ = false := by
    obtain ⟨pv, v, h1, _⟩ := h2.row
    exact free_of h1 2
  have HX := Lib.hid (h2.setX (.slice (some ⟨gz, o2, none⟩) k (c - 1)))
  clear h2 h3
  refine hK _ _ (fun _ _ => hS2) ?_
  clear hK K hS1 hS2 H0 HS
  refine Drawn.done (by kernel_rfl) ?_ _
  try simp only [put_list, List.set]
  go_wp2_with fail
  go_end0
  have hg := H.out.1
  have hgz3 : (W2.setCell ⟨b, 2, none⟩ (.slice (some ⟨gz, o2, none⟩) k (c - 1))).heap[gz]? = W.heap[gz]? := (heap_setCell_other _ _ _ _ (by simpa using hg.2.1)).trans hgz2
  have hch := H2.out.2.trans HX.out.2
  have hk := HK.out
  have hkc := H.out.2.2.1
  refine ⟨rfl, ⟨⟨hg.1, hg.2.1, Nat.lt_of_lt_of_le hg.2.2 hch.size⟩, o2, c - 1, by rw [hk]; exact HX.out.1, by rw [hk]; omega, fun j hj => ?_⟩, hch.os, hch.tape, hch.output, hch.size, fun k hk hn => hch.block k hk (fun hf => hn (Or.inl hf)), fun k hk => ?_⟩
  · simp only at hj
    have h1 := H.out.2.2.2.1 (j + 1) (by simp; omega)
    have ho := HO2.out
    rw [if_neg (by omega)] at ho
    refine (World.cell?_of_block hgz3).trans ?_
    rw [← ho, show o + 1 + j = o + (j + 1) by omega, h1]
    rfl
  · rcases hk with hk | rfl
    · exact (hch.new k hk).imp (fun h => Or.inl h) id
    · exact Or.inl (Or.inr rfl)
theorem wrend_c {b B gz : Nat} {s : List UInt8 × List Nat} {W : World} (h : WrS b B gz s W) :
    Calls Tryz.prog 260 #[.pointer (some ⟨b, 0, none⟩)] W fun e W' => e = .returned (.tuple #[]) ∧ WrS b B gz s W' ∧ Chg (WrF b gz W) (WrF b gz W') W W' := by
  go_enter Tryz.func260, Tryz.ntmps260
  go_wp2_with fail
  go_end0
  exact ⟨rfl, h, Chg.refl _ _⟩
end Go.Proofs.YtekoaheiapddiaaGreat
end
section
namespace Go.Proofs.YtekoaheiapddiaaGreat
open Go.RowKit

theorem set_alloc (W : World) (b j : Nat) (v : Value) (o : Obj) (hb : b < W.heap.size) : ((W.setCell ⟨b, j, none⟩ v).alloc o).heap = ((W.alloc o).setCell ⟨b, j, none⟩ v).heap := by
  apply Array.ext_getElem?
  intro i
  rw [heap_alloc_get]
  have hs : (W.setCell ⟨b, j, none⟩ v).heap.size = W.heap.size := by simp [World.setCell]
  rw [hs]
  by_cases hi : i = W.heap.size
  · rw [if_pos hi, hi, heap_setCell_other _ _ _ _ (by simp; omega)]
    exact (heap_alloc_new _ _).symm
  · rw [if_neg hi]
    by_cases hib : i = b
    · subst hib
      have e : (W.alloc o).heap[i]? = W.heap[i]? := Below.heap_alloc _ _ _ hb
      simp only [World.setCell, Array.getElem?_modify, if_true, e]
    · rw [heap_setCell_other _ _ _ _ (by simpa using hib), heap_setCell_other _ _ _ _ (by simpa using hib), heap_alloc_get, if_neg hi]
set_option maxRecDepth 100000 in
set_option maxHeartbeats 2000000 in
theorem grow_c {T : TypeId} (_ : Hold T) (b B n : Nat) (x : Value) (W : World) (h : W.heap[b]? = some (.cells #[.pointer (some ⟨b, 0, none⟩), .slice none 0 0, x] T (0, 0))) (hb : b < B) (hB : B ≤ W.heap.size) (hn : n ≤ 1000000000) :
    Calls Tryz.prog 275 #[.pointer (some ⟨b, 0, none⟩), .int .i64 n] W fun e W' => e = .returned (.tuple #[]) ∧ BdS T b B [] x W' ∧ Chg (fun k => k = b) (BdF b W') W W' := by
  obtain ⟨cs, hrun, hle, hmax⟩ := Lib.run_makeNoZero (P := Tryz.prog) W.drew #[3] 218 5 Tryz.underlying218 n (by omega)
  have hw : IntKind.i64.wrap (IntKind.i64.wrap 0 + (n : Int)) = n := by
    rw [IntKind.wrap_i64, IntKind.wrap_i64]
    omega
  have hcall : (callFunc 279 #[.int .i64 (IntKind.i64.wrap (IntKind.i64.wrap 0 + (n : Int)))]).run Tryz.prog W.drew = .ok (.value (.slice (some ⟨W.drew.heap.size, 0, none⟩) n cs.size)) (W.drew.drew.drew.alloc (.cells cs 5)) := by
    rw [hw, run_callFunc_extern Tryz.func279 (by kernel_rfl) (by kernel_rfl) (by kernel_rfl) (e := Extern.BytealgMakeNoZero.makeNoZero #[3] #[218]) (by kernel_rfl), hrun]
    rfl
  have hlt : b < W.heap.size := lt_of h
  have c1 : W.drew.cell? ⟨b, 1, none⟩ = some (.slice none 0 0) := cell_of (w := W.drew) h 1
  have h2 : (W.alloc (.cells cs 5)).heap[b]? = some (.cells #[.pointer (some ⟨b, 0, none⟩), .slice none 0 0, x] T (0, 0)) := (Below.heap_alloc _ _ _ hlt).trans h
  have c2 : (W.alloc (.cells cs 5)).cell? ⟨b, 1, none⟩ = some (.slice none 0 0) := cell_of h2 1
  have f2 : (W.alloc (.cells cs 5)).frozen? ⟨b, 1, none⟩ = false := free_of h2 1
  obtain ⟨j0, hj0, hj1⟩ : ∃ j, Tryz.prog.info? 5 = some j ∧ j.size = 1 := by
    obtain ⟨i0, hi, _, hz1, _⟩ := info_parts infoByte
    exact ⟨i0, hi, hz1⟩
  have hcopy : ∀ V : World, (Builtin.copy_ #[218, 218] 3 #[.slice (some ⟨W.heap.size, 0, none⟩) 0 cs.size, .slice none 0 0]).run Tryz.prog V = .ok (goInt 0) V :=
    fun V => run_copy_none V 218 218 3 5 _ _ 0 cs.size 0 0 Tryz.underlying218 (by kernel_rfl) rfl
  have hfin : ∀ V : World, V.heap = ((W.alloc (.cells cs 5)).setCell ⟨b, 1, none⟩ (.slice (some ⟨W.heap.size, 0, none⟩) 0 cs.size)).heap → V.os = W.os → V.tape = W.tape → V.output = W.output → BdS T b B [] x V ∧ Chg (fun k => k = b) (BdF b V) W V := by
    intro V hV ho ht hout
    have hb' : V.heap[b]? = some (.cells #[.pointer (some ⟨b, 0, none⟩), .slice (some ⟨W.heap.size, 0, none⟩) 0 cs.size, x] T (0, 0)) := by
      rw [hV]
      simpa using heap_setCell_same _ _ 1 _ _ (.slice (some ⟨W.heap.size, 0, none⟩) 0 cs.size) h2
    have hn' : V.heap[W.heap.size]? = some (.cells cs 5 (0, 0)) := by
      rw [hV, heap_setCell_other _ _ _ _ (by simp; omega)]
      exact heap_alloc_new _ _
    refine ⟨⟨hb, _, _, hb', Or.inr rfl, ⟨rfl, Or.inr ⟨W.heap.size, cs.size, cs, rfl, hB, hn', Nat.zero_le _, hmax (by unfold maxLen; omega), by omega, by simp [Lib.byteCells]⟩⟩⟩, ho, ht, hout, by rw [hV]; simp [World.setCell], fun k hk hne => ?_, fun k hk => ?_⟩
    · rw [hV, heap_setCell_other _ _ _ _ (by simpa using hne)]
      exact Below.heap_alloc _ _ _ hk
    · rcases hk with rfl | ⟨u, hu, hk⟩
      · exact Or.inl rfl
      · rw [cell_of hb'] at hu
        obtain rfl : Value.slice (some ⟨W.heap.size, 0, none⟩) 0 cs.size = u := by simpa using hu
        right
        have : W.heap.size = k := by simpa [Value.ownBlock] using hk
        omega
  have HF := Lib.hid hfin
  have HSA := Lib.hid (set_alloc W b 1 (.slice (some ⟨W.heap.size, 0, none⟩) 0 cs.size) (.cells cs 5) hlt)
  clear hw hfin hle hmax hrun h h2 hj0 hj1
  go_enter Tryz.func275, Tryz.ntmps275
  go_wp2_with fail
  go_region
  all_goals (go_wp2_with fail; go_end0; first | exact ⟨rfl, HF.out _ rfl rfl rfl rfl⟩ | exact ⟨rfl, HF.out _ HSA.out rfl rfl rfl⟩)
set_option maxRecDepth 100000 in
set_option maxHeartbeats 2000000 in
theorem bgrow_c {T : TypeId} (hT : Hold T) (b B n : Nat) (x : Value) (W : World) (h : W.heap[b]? = some (.cells #[.pointer none, .slice none 0 0, x] T (0, 0))) (hb : b < B) (hB : B ≤ W.heap.size) (hn : n ≤ 1000000000) (h0 : 0 < n) :
    Calls Tryz.prog 257 #[.pointer (some ⟨b, 0, none⟩), .int .i64 n] W fun e W' => e = .returned (.tuple #[]) ∧ BdS T b B [] x W' ∧ Chg (fun k => k = b) (BdF b W') W W' := by
  have HC := Lib.hid (check_c hT b _ _ _ W h (Or.inl rfl))
  have hi : (0 : Int) < (n : Int) := by omega
  have hi2 : ¬ (n : Int) < 0 := by omega
  have hw0 : IntKind.i64.wrap 0 = 0 := by rw [IntKind.wrap_i64]; rfl
  have HH := Lib.hid (fun (W1 : World) nq h1 h2 => grow_c hT b B n x (W1.drewN nq) h1 hb h2 hn)
  clear hn
  go_enter Tryz.func257, Tryz.ntmps257
  go_wp2_with (go_at_call 274; refine HC.out.mono ?_; rintro e W1 ⟨rfl, h1, h2, h3, h4, h5, h6⟩; have c1 : W1.cell? ⟨b, 1, none⟩ = some (.slice none 0 0) := cell_of h1 1; have H1 := Lib.hid (And.intro h1 (And.intro h2 (And.intro h3 (And.intro h4 (And.intro h5 h6))))); clear h1 h2 h3 h4 h5 h6)
  go_quiet (fail)
  go_wp2_with fail
  refine (HH.out W1 nq H1.out.1 (by have := H1.out.2.2.1; show B ≤ W1.heap.size; omega)).mono ?_
  rintro e W2 ⟨rfl, h2, h3⟩
  have H2 := Lib.hid (And.intro h2 (show Chg (fun k => k = b) (BdF b W2) W W2 from ⟨h3.os.trans H1.out.2.2.2.1, h3.tape.trans H1.out.2.2.2.2.1, h3.output.trans H1.out.2.2.2.2.2, by have := h3.size; have e := H1.out.2.2.1; have e2 : (W1.drewN nq).heap.size = W1.heap.size := rfl; omega, fun k hk hn => (h3.block k (by have e := H1.out.2.2.1; show k < W1.heap.size; omega) hn).trans (H1.out.2.1 k hn), fun k hk => (h3.new k hk).imp id (fun h => by have e := H1.out.2.2.1; have e2 : (W1.drewN nq).heap.size = W1.heap.size := rfl; omega)⟩))
  clear h2 h3
  go_wp2_with fail
  go_end0
  exact ⟨rfl, H2.out⟩
end Go.Proofs.YtekoaheiapddiaaGreat
end
