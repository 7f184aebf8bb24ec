/- A strings.Builder that is the first field of a struct of three cells. -/
import Derived.Test.YtgaaalacoeainaaLl
import Derived.Lib.Builder
import Derived.Lib.AppendStr
import Derived.Lib.UnsafeStr
import Derived.Lib.MakeNoZero
import Derived.Laws.Externs
import Derived.Laws.IdiomCopy
namespace Go.Proofs.Ytgaaalacoeainaa
open Go.RowKit

/-- The types of the two structs. -/
def Hold (T : TypeId) : Prop := T = 68 ∨ T = 73
theorem Hold.lies {T : TypeId} (h : Hold T) : liesAt Try.prog Try.prog.depth T (3 / Try.prog.cellsOf T) 0 66 1 = true := by
  rcases h with rfl | rfl <;> kernel_rfl
theorem Hold.ne {T : TypeId} (h : Hold T) : T ≠ 5 := by rcases h with rfl | rfl <;> decide
theorem sizeBuilder : (Try.prog.info? 66).map (·.size) = some 2 := by kernel_rfl
/-- The builder in block b holds the bytes bs; x lies behind it; its row lies from block B on. -/
structure BdS (T : TypeId) (b B : Nat) (bs : List UInt8) (x : Value) (W : World) : Prop where
  lt : b < B
  row : ∃ pv v, W.heap[b]? = some (.cells #[pv, v, x] T (0, 0)) ∧ (pv = .pointer none ∨ pv = .pointer (some ⟨b, 0, none⟩)) ∧ W.ownsRow B 5 1 v bs.length (Lib.byteCells bs)
def BdF (b : Nat) (W : World) (k : Nat) : Prop := k = b ∨ ∃ v, W.cell? ⟨b, 1, none⟩ = some v ∧ v.ownBlock = some k
set_option maxRecDepth 100000 in
theorem check_fresh {T : TypeId} (hT : Hold T) (b : Nat) (v x : Value) (W : World) (h : W.heap[b]? = some (.cells #[.pointer none, v, x] T (0, 0))) :
    Calls Try.prog 47 #[.pointer (some ⟨b, 0, none⟩)] W fun e W' => e = .returned (.tuple #[]) ∧ W' = W.setCell ⟨b, 0, none⟩ (.pointer (some ⟨b, 0, none⟩)) := by
  obtain ⟨j, hj, hjs⟩ := Option.map_eq_some_iff.1 sizeBuilder
  have c0 : W.cell? ⟨b, 0, none⟩ = some (.pointer none) := cell_of h 0
  have z0 := free_of h 0
  have hsh : W.shape? b = some (T, 3) := by simp [World.shape?, h]
  have hu := Lib.run_to_unsafe (P := Try.prog) W ⟨b, 0, none⟩ Try.underlying64 Try.underlying100 hj (by rw [hjs]; decide) hsh (Nat.zero_lt_succ 2)
  have hf := Lib.run_from_unsafe (P := Try.prog) W ⟨b, 0, none⟩ Try.underlying100 Try.underlying64 hj hsh hT.lies
  have hn : (callFunc 56 #[.pointer (some ⟨b, 0, none⟩)]).run Try.prog W = .ok (.value (.pointer (some ⟨b, 0, none⟩))) W := by
    rw [run_callFunc_extern Try.func56 (by kernel_rfl) (by kernel_rfl) (by kernel_rfl) (e := Extern.AbiNoEscape.same) (by kernel_rfl), Lib.run_noEscape]
    rfl
  clear hsh hj hjs h
  go_enter Try.func47, Try.ntmps47
  go_wp2_with fail
  go_end0
  exact ⟨rfl, rfl⟩
set_option maxRecDepth 100000 in
theorem check_used {T : TypeId} (b : Nat) (v x : Value) (W : World) (h : W.heap[b]? = some (.cells #[.pointer (some ⟨b, 0, none⟩), v, x] T (0, 0))) :
    Calls Try.prog 47 #[.pointer (some ⟨b, 0, none⟩)] W fun e W' => e = .returned (.tuple #[]) ∧ W' = W := by
  obtain ⟨j, hj, hjs⟩ := Option.map_eq_some_iff.1 sizeBuilder
  have c0 : W.cell? ⟨b, 0, none⟩ = some (.pointer (some ⟨b, 0, none⟩)) := cell_of h 0
  have hq := fun w => Lib.run_neq_ptr_same (P := Try.prog) w ⟨b, 0, none⟩ Try.underlying64 hj
  clear hj hjs h
  go_enter Try.func47, Try.ntmps47
  go_wp2_with fail
  go_end0
  exact ⟨rfl, rfl⟩
/-- Behind copyCheck: the builder's own address lies there. -/
theorem check_c {T : TypeId} (hT : Hold T) (b : Nat) (pv v x : Value) (W : World) (h : W.heap[b]? = some (.cells #[pv, v, x] T (0, 0))) (hp : pv = .pointer none ∨ pv = .pointer (some ⟨b, 0, none⟩)) :
    Calls Try.prog 47 #[.pointer (some ⟨b, 0, none⟩)] W fun e W' => e = .returned (.tuple #[]) ∧ W'.heap[b]? = some (.cells #[.pointer (some ⟨b, 0, none⟩), v, x] T (0, 0)) ∧ (∀ k, k ≠ b → W'.heap[k]? = W.heap[k]?) ∧ W'.heap.size = W.heap.size ∧ W'.os = W.os ∧ W'.tape = W.tape ∧ W'.output = W.output := by
  rcases hp with rfl | rfl
  · refine (check_fresh hT b v x W h).mono ?_
    rintro e W' ⟨rfl, rfl⟩
    exact ⟨rfl, by simpa using heap_setCell_same _ _ 0 _ _ (.pointer (some ⟨b, 0, none⟩)) h, fun k hk => heap_setCell_other _ _ _ _ (by simpa using hk), by simp [World.setCell], rfl, rfl, rfl⟩
  · refine (check_used b v x W h).mono ?_
    rintro e W' ⟨rfl, rfl⟩
    exact ⟨rfl, h, fun _ _ => rfl, rfl, rfl, rfl, rfl⟩
theorem infoByte : (Try.prog.info? 5).map (fun i => (i.zero, i.size, i.bytes)) = some (some (.int .u8 0), 1, 1) := by kernel_rfl
/-- A new buffer, laid into the builder. -/
theorem BdS.put {T : TypeId} {b B : Nat} {bs' : List UInt8} {pv v v' x : Value} {W W1 W2 : World} (hlt : b < B) (h0 : W.heap[b]? = some (.cells #[pv, v, x] T (0, 0))) (hv : ∀ k, v.ownBlock = some k → B ≤ k ∧ k < W.heap.size)
    (h1 : W1.heap[b]? = some (.cells #[.pointer (some ⟨b, 0, none⟩), v, x] T (0, 0))) (hk : ∀ k, k ≠ b → W1.heap[k]? = W.heap[k]?) (hs : W1.heap.size = W.heap.size) (hos : W1.os = W.os) (ht : W1.tape = W.tape) (hout : W1.output = W.output)
    {o : Option Obj} (hg : (match o with | some o => W1.alloc o | none => W1).grownBy W2 v.ownBlock) (hbl : v'.ownBlock = v.ownBlock ∨ ∃ k, v'.ownBlock = some k ∧ W1.heap.size ≤ k) (hown : W2.ownsRow B 5 1 v' bs'.length (Lib.byteCells bs')) :
    BdS T b B bs' x (W2.setCell ⟨b, 1, none⟩ v') ∧ Chg (BdF b W) (BdF b (W2.setCell ⟨b, 1, none⟩ v')) W (W2.setCell ⟨b, 1, none⟩ v') ∧ W2.heap[b]? = some (.cells #[.pointer (some ⟨b, 0, none⟩), v, x] T (0, 0)) := by
  have hbl0 : b < W.heap.size := lt_of h0
  have hk2 : ∀ k, k < W.heap.size → v.ownBlock ≠ some k → W2.heap[k]? = W1.heap[k]? := by
    intro k h3 h4
    cases o with
    | none => exact hg.block k (by rw [hs]; exact h3) (fun e => h4 e.symm)
    | some o => exact (hg.block k (by simp; omega) (fun e => h4 e.symm)).trans (Below.heap_alloc _ _ _ (by omega))
  have hsz : W.heap.size ≤ W2.heap.size := by
    have := hg.size
    cases o with
    | none => simp only at this; omega
    | some o => simp at this; omega
  have hbv : v.ownBlock ≠ some b := fun e => by have := (hv b e).1; omega
  have h2b := (hk2 b hbl0 hbv).trans h1
  have hfin : (W2.setCell ⟨b, 1, none⟩ v').heap[b]? = some (.cells #[.pointer (some ⟨b, 0, none⟩), v', x] T (0, 0)) := by simpa using heap_setCell_same _ _ 1 _ _ v' h2b
  have hos2 : W2.os = W.os ∧ W2.tape = W.tape ∧ W2.output = W.output := by
    cases o with
    | none => exact ⟨hg.os.trans hos, hg.tape.trans ht, hg.output.trans hout⟩
    | some o => exact ⟨hg.os.trans hos, hg.tape.trans ht, hg.output.trans hout⟩
  refine ⟨⟨hlt, _, v', hfin, Or.inr rfl, own_keep hown fun k hk => heap_setCell_other _ _ _ _ (by have := (hown.lt k hk).1; simp; omega)⟩, ⟨hos2.1, hos2.2.1, hos2.2.2, by simpa [World.setCell] using hsz, fun k h3 h4 => ?_, fun k h3 => ?_⟩, h2b⟩
  · have hkb : k ≠ b := fun e => h4 (Or.inl e)
    rw [heap_setCell_other _ _ _ _ (by simpa using hkb), hk2 k h3 (fun e => h4 (Or.inr ⟨v, cell_of h0 1, e⟩)), hk k hkb]
  · rcases h3 with rfl | ⟨u, hu, h3⟩
    · exact Or.inl (Or.inl rfl)
    · rw [cell_of hfin] at hu
      obtain rfl : v' = u := by simpa using hu
      rcases hbl with h5 | ⟨k', h5, h6⟩
      · exact Or.inl (Or.inr ⟨v, cell_of h0 1, by rw [← h5]; exact h3⟩)
      · rw [h5] at h3; injection h3 with h3; right; omega
/-- A text behind a row of bytes of the call's own: where the new row lies. -/
theorem wpList_append_text {ops : Array Oper} {rest : List Oper} {o : Oper} {a : Act} {Q : Exit → Act → World → Prop} {W : World} (hgd : o.guard = none) (sl x : Operand)
    (ho : o.op = .call { callee := .builtin .append, args := #[sl, x], argTypes := #[42, 9] }) (B : Nat) (v : Value) (n : Nat) (xs : List Value) (hs : a.eval sl = v) (hown : W.ownsRow B 5 1 v n xs) (s : ByteArray) (hx : a.eval x = .string s)
    (hbytes : n + s.size ≤ 140737488355328) (hB : B ≤ W.heap.size)
    (h : ∀ v' W', W'.ownsRow B 5 1 v' (n + s.size) (xs ++ Lib.strCells s) → W.grownBy W' v.ownBlock → (v'.ownBlock = v.ownBlock ∨ v'.ownBlock = some W.heap.size) → wpList Try.prog ops Q rest (a.put o.dst v') W') : wpList Try.prog ops Q (o :: rest) a W := by
  obtain ⟨i0, hi, hz0, hz1, hz2⟩ := info_parts infoByte
  refine wpList_plain hgd fun K hK => ?_
  obtain ⟨v', w', hr, h2, h3, h4⟩ := Lib.run_append_own_string (P := Try.prog) W B 42 9 o.type 5 i0 Try.underlying42 Try.underlying9 hi hz0 hz1 hz2 v n xs hown s (by unfold maxLen; omega) hbytes hB
  have hl : v'.ownBlock = v.ownBlock ∨ v'.ownBlock = some W.heap.size := by
    rcases hown.2 with ⟨rfl, rfl⟩ | ⟨g, cap, cur, rfl, hbg, hg, hnc, _, hcs, _⟩
    · by_cases hm : s.size = 0
      · left; rw [h4.2 ⟨rfl, hm⟩]
      · have e := hr.symm.trans (run_append_nil_string (P := Try.prog) W 42 9 o.type 5 i0 _ Try.underlying42 Try.underlying9 hi hz0 s (by omega) (by omega) (by rw [hz2]; omega))
        injection e with e _
        right; rw [e]; rfl
    · by_cases hroom : n + s.size ≤ cap
      · have e := hr.symm.trans (Lib.run_append_room_string (P := Try.prog) W 42 9 o.type 5 i0 Try.underlying42 Try.underlying9 hi hz1 g n cap cur hg s hroom (by omega))
        injection e with e _
        left; rw [e]; rfl
      · have e := hr.symm.trans (Lib.run_append_grow_string (P := Try.prog) W 42 9 o.type 5 i0 _ Try.underlying42 Try.underlying9 hi hz0 ⟨g, 0, none⟩ n cap xs (by rw [hz1]; exact hown.1) (hown.cells rfl) s (by omega) (by omega) (by rw [hz2]; exact growslice_fits (by omega) (by omega)))
        injection e with e _
        right; rw [e]; rfl
  unfold Oper.wp execOp
  simp only [ho, resolve, invoke, builtin, Sem.run_bind, Sem.run_pure, Result.andThen_ok, List.map_toArray, List.map_cons, List.map_nil, hs, hx, hr]
  exact hK _ _ (h v' w' h2 h3 hl)
theorem strCells_str (l : List UInt8) : Lib.strCells (str l) = Lib.byteCells l := by rw [Lib.strCells_eq]; rfl
set_option maxRecDepth 100000 in
set_option maxHeartbeats 1000000 in
theorem wstring_c {T : TypeId} (hT : Hold T) {b B : Nat} {bs : List UInt8} {x : Value} {W : World} (h : BdS T b B bs x W) (s : List UInt8) (hn : bs.length + s.length ≤ 100000000000000) (hB : B ≤ W.heap.size) :
    Calls Try.prog 49 #[.pointer (some ⟨b, 0, none⟩), .string (str s)] W fun e W' => (∃ n, e = .returned (.tuple #[.int .i64 n, .nilIface])) ∧ BdS T b B (bs ++ s) x W' ∧ Chg (BdF b W) (BdF b W') W W' := by
  obtain ⟨pv, v, h1, hp, h2⟩ := h.row
  obtain ⟨i0, hi, hz0, hz1, hz2⟩ := info_parts infoByte
  have HI := Lib.hid (And.intro hi (And.intro hz0 (And.intro hz1 hz2)))
  have H := Lib.hid (And.intro h.lt (And.intro h1 h2))
  have HC := Lib.hid (check_c hT b pv v x W h1 hp)
  have hs := str_size s
  have HS := Lib.hid (strCells_str s)
  obtain ⟨va, vc, rfl⟩ := own_any h2
  clear h h1 h2 hp hi hz0 hz1 hz2
  generalize str s = y at *
  go_enter Try.func49, Try.ntmps49
  go_wp2_with (first
    | (go_at_call 47; refine HC.out.mono ?_; rintro e W1 ⟨rfl, h1, h2, h3, h4, h5, h6⟩; have c1 : W1.cell? ⟨b, 1, none⟩ = some (.slice va bs.length vc) := cell_of h1 1; have H1 := Lib.hid (And.intro h1 (And.intro h2 (And.intro h3 (And.intro h4 (And.intro h5 h6))))); clear h1 h2 h3 h4 h5 h6)
    | (at_builtin; refine wpList_append_text (by rfl) _ _ (by rfl) B _ bs.length (Lib.byteCells bs) (by rfl) (own_keep H.out.2.2 (fun k hk => H1.out.2.1 k (fun e => by have := (H.out.2.2.lt k hk).1; have := H.out.1; omega))) y (by rfl) (by omega) (by rw [H1.out.2.2.1]; exact hB) ?_; intro v2 W2 hown2 hgr2 hbl2; obtain ⟨a2, c2, rfl⟩ := own_any hown2; have HZ := Lib.hid (BdS.put (bs' := bs ++ s) (o := none) H.out.1 H.out.2.1 H.out.2.2.lt H1.out.1 H1.out.2.1 H1.out.2.2.1 H1.out.2.2.2.1 H1.out.2.2.2.2.1 H1.out.2.2.2.2.2 hgr2 (hbl2.imp id (fun h => ⟨_, h, Nat.le_refl _⟩)) (by rw [HS.out, ← Lib.byteCells_append] at hown2; rw [List.length_append, ← hs]; exact hown2)); have d1 : W2.cell? ⟨b, 1, none⟩ = some (.slice va bs.length vc) := cell_of HZ.out.2.2 1; have d2 := free_of HZ.out.2.2 1; clear hown2 hgr2 hbl2))
  rw [hs] at HZ
  exact bodyPost_ret (v := .tuple #[.int .i64 (s.length : Nat), .nilIface]) (by simp [results, Try.results49, go_sem]) rfl ⟨⟨_, rfl⟩, HZ.out.1, HZ.out.2.1⟩
theorem byteCells_one (c : UInt8) : Lib.byteCells [c] = [.int .u8 (c.toNat : Nat)] := rfl
set_option maxRecDepth 100000 in
set_option maxHeartbeats 1000000 in
theorem wbyte_c {T : TypeId} (hT : Hold T) {b B : Nat} {bs : List UInt8} {x : Value} {W : World} (h : BdS T b B bs x W) (c : UInt8) (hn : bs.length ≤ 900000000) (hB : B ≤ W.heap.size) :
    Calls Try.prog 50 #[.pointer (some ⟨b, 0, none⟩), .int .u8 (c.toNat : Nat)] W fun e W' => e = .returned .nilIface ∧ BdS T b B (bs ++ [c]) x W' ∧ Chg (BdF b W) (BdF b W') W W' := by
  obtain ⟨pv, v, h1, hp, h2⟩ := h.row
  have H := Lib.hid (And.intro h.lt (And.intro h1 h2))
  have HC := Lib.hid (check_c hT b pv v x W h1 hp)
  have HS := Lib.hid (byteCells_one c)
  obtain ⟨va, vc, rfl⟩ := own_any h2
  clear h h1 h2 hp
  generalize c.toNat = y at *
  go_enter Try.func50, Try.ntmps50
  go_wp2_with (first
    | (go_at_call 47; refine HC.out.mono ?_; rintro e W1 ⟨rfl, h1, h2, h3, h4, h5, h6⟩; have c1 : W1.cell? ⟨b, 1, none⟩ = some (.slice va bs.length vc) := cell_of h1 1; have H1 := Lib.hid (And.intro h1 (And.intro h2 (And.intro h3 (And.intro h4 (And.intro h5 h6))))); clear h1 h2 h3 h4 h5 h6)
    | (at_builtin; refine wpList_append_one (by rfl) _ _ 42 5 (by rfl) Try.underlying42 _ 1 infoByte rfl (by omega) B _ bs.length (Lib.byteCells bs) (by rfl) ((own_keep (w' := W1) H.out.2.2 (fun k hk => H1.out.2.1 k (fun e => by have := (H.out.2.2.lt k hk).1; have := H.out.1; omega))).alloc _) W1.heap.size (.int .u8 (y : Nat)) rfl (by rfl) (heap_alloc_new _ _) (by have := H1.out.2.2.1; simp; omega) (by omega) ?_; intro v2 W2 hown2 hgr2 hbl2; obtain ⟨a2, c2, rfl⟩ := own_any hown2; have HZ := Lib.hid (BdS.put (bs' := bs ++ [c]) (o := some (.cells #[.int .u8 (y : Nat)] 5)) H.out.1 H.out.2.1 H.out.2.2.lt H1.out.1 H1.out.2.1 H1.out.2.2.1 H1.out.2.2.2.1 H1.out.2.2.2.2.1 H1.out.2.2.2.2.2 hgr2 (hbl2.imp id (fun h => ⟨_, h, by simp⟩)) (by rw [← HS.out, ← Lib.byteCells_append] at hown2; rw [List.length_append]; exact hown2)); have d1 : W2.cell? ⟨b, 1, none⟩ = some (.slice va bs.length vc) := cell_of HZ.out.2.2 1; have d2 := free_of HZ.out.2.2 1; clear hown2 hgr2 hbl2))
  go_ret
  exact ⟨rfl, HZ.out.1, HZ.out.2.1⟩
set_option maxRecDepth 100000 in
set_option maxHeartbeats 1000000 in
theorem bstring_c {T : TypeId} {b B : Nat} {bs : List UInt8} {x : Value} {W : World} (h : BdS T b B bs x W) (h0 : bs ≠ []) (hn : bs.length ≤ 900000000) :
    Calls Try.prog 33 #[.pointer (some ⟨b, 0, none⟩)] W fun e W' => e = .returned (.string (str bs)) ∧ Below b W W' := by
  obtain ⟨pv, v, h1, hp, h2⟩ := h.row
  obtain ⟨k, hk⟩ : ∃ k, bs.length = k + 1 := ⟨bs.length - 1, by have := List.length_pos_iff.2 h0; omega⟩
  have h2' := h2
  rw [hk] at h2'
  obtain ⟨g, cap, rfl, hg1, hg2, hg3⟩ := own_form h2'
  have c1 : W.drew.cell? ⟨b, 1, none⟩ = some (.slice (some ⟨g, 0, none⟩) (k + 1) cap) := cell_of (w := W.drew) h1 1
  have hsd : ∀ w : World, (Builtin.unsafeSliceData_ #[42] 92 #[.slice (some ⟨g, 0, none⟩) (k + 1) cap]).run Try.prog w = .ok (.pointer (some ⟨g, 0, none⟩)) w := fun w => Lib.run_unsafeSliceData_row w _ _ _ _ _ (by omega)
  have hus : (Builtin.unsafeString_ #[92, 3] 9 #[.pointer (some ⟨g, 0, none⟩), .int .i64 ((k : Int) + 1)]).run Try.prog W.drew = .ok (.string (str bs)) (W.drew.freeze ⟨g, 0, none⟩ bs.length) := by
    have hc : ∀ cur : Array Value, ∀ n, cur.size = n * 1 → cur.size = n := fun cur n h => by omega
    rcases h2'.2 with ⟨h0, _⟩ | ⟨g', cap', cur, e, _, hgg, hnc, _, hcs, _⟩
    · cases h0
    · cases e
      have h := Lib.run_unsafeString_row (P := Try.prog) W.drew 92 3 9 5 Try.underlying92 (by kernel_rfl) g cap (by have e : W.drew.heap[g]? = _ := hgg; simp [World.shape?, e, hcs]) bs h0 (by omega) (by omega) (fun j u hj => by
        have h3 := h2.cells (g := g) rfl j (.int .u8 u.toNat) (by simp [Lib.byteCells, hj])
        exact h3)
      rw [hk] at h
      rw [show ((k : Int) + 1) = ((k + 1 : Nat) : Int) by omega, hk]
      exact h
  have HB := Lib.hid (show Below b W (W.drew.freeze ⟨g, 0, none⟩ bs.length) from Lib.below_freeze (p := ⟨g, 0, none⟩) (Below.refl b W).drew (by have := h.lt; show b ≤ g; omega) _)
  generalize hz : W.drew.freeze ⟨g, 0, none⟩ bs.length = W2 at *
  have HZ := Lib.hid hz
  clear h h1 h2 h2' hp hz hk h0 hn
  generalize str bs = y at *
  go_enter Try.func33, Try.ntmps33
  go_wp2_with fail
  go_still_tail 10, (by kernel_rfl)
  change wpList _ _ _ _ _ W.drew
  go_wp2_with fail
  go_ret
  exact ⟨rfl, HB.out⟩
end Go.Proofs.Ytgaaalacoeainaa
