/- A look-up of a file; empty, New, and the calls that only read. -/
import Derived.Test.YtialfpkmcafkmaaGreatDka
namespace Go.Proofs.YtialfpkmcafkmaaGreat
open Go.RowKit Go.Maps Go.WideElems Go.ChangeMaps Go.MapKept Go.WideMaps

theorem law : Keyed Tryz.prog 9 := string_keyed Tryz.underlying9
theorem zeroP (w : World) : (zeroValue 79).run Tryz.prog w = .ok (.pointer none) w := by kernel_rfl
def ptrF : Option Fl → Value
  | none => .pointer none
  | some f => .pointer (some ⟨f.b, 0, none⟩)
theorem key_str {s : Nm} (hs : s.length ≤ maxLen) : keyOf Tryz.prog 9 (.string (str s)) = some (.string s) := by
  have h := keyOf_string_mk (P := Tryz.prog) (k := 9) Tryz.underlying9 (s := str s) (by rw [str_size]; exact hs)
  rwa [str_list] at h
section
variable {x : Dk} {W : World}
theorem ptr_of_enc {v : Value} {ps : List MemPlace} {o : Option Fl} (h : ptrElem v = some (encF o, ps)) : v = ptrF o := by
  rcases ptrElem_inv h with ⟨rfl, e⟩ | ⟨b, rfl, e⟩
  · cases o with
    | none => rfl
    | some f => cases e
  · cases o with
    | none => cases e
    | some f =>
      have : f.b = b := by injection e with e; simp only [encF, DataW.lit.injEq, Lit.int.injEq, true_and] at e; omega
      rw [ptrF, this]
theorem DiskAt.look (h : DiskAt x W) {s : Nm} (hs : s.length ≤ maxLen) : (Instr.lookup 66 (.map (some x.m)) (.string (str s)) false).run Tryz.prog W = .ok (ptrF (x.fs s)) W := by
  obtain ⟨D, ho, h2, _⟩ := h.own
  obtain ⟨v, ps, hr, hv⟩ := ho.lookup law (t := 66) (e := 79) Tryz.underlying66 (zeroP W) (zd := .nil) (zp := []) rfl (key_str hs)
  rw [h2 s] at hv
  rw [hr, ptr_of_enc hv]
end
/-- A disk without files. -/
def Dk.new (d m : Nat) (room : Int) : Dk := ⟨d, m, 0, fun _ => none, room, 0, -1, 0, false⟩
theorem new_at {room : Int} {W : World} {m d : Nat} (hm : W.heap[m]? = some (.map #[] 0)) (hd : W.heap[d]? = some (.cells (Dk.new d m room).cells 68 (0, 0))) : DiskAt (Dk.new d m room) W := by
  refine ⟨hd, ⟨.map [], ⟨#[], 0, hm, ⟨by simp, stamped_empty 0, by simp⟩, Nat.le_refl _, rfl⟩, fun s => rfl, fun s => rfl⟩, ?_, ?_⟩
  · intro s f h; cases h
  · intro s t f g h; cases h
set_option maxRecDepth 100000 in
theorem empty_c (room : Int) (W : World) : Calls Tryz.prog 17 #[.int .i64 room] W fun e W' => e = .returned (.pointer (some ⟨W.heap.size + 1, 0, none⟩)) ∧ DiskAt (Dk.new (W.heap.size + 1) W.heap.size room) W' ∧ Chg (fun _ => False) (Dk.new (W.heap.size + 1) W.heap.size room).ft W W' := by
  have hmm := @run_makeMap Tryz.prog
  go_enter Tryz.func17, Tryz.ntmps17
  go_wp2_with fail
  go_ret
  refine ⟨?_, ?_, ?_⟩
  · rfl
  · refine new_at ?_ ?_
    · rw [Below.heap_alloc _ _ _ (by simp)]; exact (MapKept.heap_alloc W _).1
    · have h := heap_alloc_new (W.alloc (.map #[] 0)) (.cells (Dk.new (W.heap.size + 1) W.heap.size room).cells 68)
      rw [alloc_size] at h; exact h
  · refine ⟨rfl, rfl, rfl, by simp; omega, fun k hk _ => ?_, ?_⟩
    · rw [Below.heap_alloc _ _ _ (by simp; omega), Below.heap_alloc _ _ _ hk]
    · rintro k (rfl | rfl | ⟨s, f, h, _⟩)
      · exact Or.inr (by simp [Dk.new])
      · exact Or.inr (Nat.le_refl _)
      · cases h
set_option maxRecDepth 100000 in
theorem new_c (room : Nat) (hr : room ≤ 1048576) (W : World) : Calls Tryz.prog 5 #[.int .i64 (room : Nat)] W fun e W' => ∃ d m, e = .returned (.tuple #[.pointer (some ⟨d, 0, none⟩), .int .i64 0]) ∧ DiskAt (Dk.new d m room) W' ∧ Chg (fun _ => False) (Dk.new d m room).ft W W' := by
  go_enter Tryz.func5, Tryz.ntmps5
  go_wp2_with (go_at_call 17; refine (empty_c _ _).mono ?_; rintro e W1 ⟨rfl, h1, h2⟩; have HZ := Lib.hid (And.intro h1 h2); clear h1 h2)
  go_ret2
  exact ⟨_, _, rfl, HZ.out.1, HZ.out.2⟩
set_option maxRecDepth 100000 in
theorem new_neg (W : World) : Calls Tryz.prog 5 #[.int .i64 (-1)] W fun e W' => e = .returned (.tuple #[.pointer none, .int .i64 1]) ∧ W' = W := by
  go_enter Tryz.func5, Tryz.ntmps5
  go_wp2_with fail
  go_ret2
  exact ⟨rfl, rfl⟩
section
variable {x : Dk} {W : World}
theorem own_conv {B : Nat} {l : List UInt8} {a : Option Addr} {c : Nat} (h : W.ownsRow B 5 1 (.slice a l.length c) l.length (Lib.byteCells l)) (n : Nat) (hn : n ≤ l.length) :
    (convert 80 9 (.slice a n c)).run Tryz.prog W = .ok (.string (str (l.take n))) W := by
  rcases Nat.eq_zero_or_pos n with rfl | h0
  · rw [run_convert_bytes_string W 80 9 5 _ 0 c Tryz.underlying80 Tryz.underlying5 Tryz.underlying9]
    cases a <;> simp [Conv.bytesToString, loadCells] <;> rfl
  · rcases h.2 with ⟨he, h0'⟩ | ⟨g, cap, cur, e, _, hg, _⟩
    · omega
    · cases e
      have hk := run_convert_bytes_back (P := Tryz.prog) W 80 9 5 ⟨g, 0, none⟩ c (l.take n) Tryz.underlying80 Tryz.underlying5 Tryz.underlying9 (fun j hj => by
        have hj' : j < l.length := by rw [List.length_take] at hj; omega
        exact h.cells (g := g) rfl j (.int .u8 ((l.take n)[j].toNat : Int)) (by simp [Lib.byteCells, hj']))
      rw [List.length_take, Nat.min_eq_left hn] at hk
      exact hk
/-- What Read tells. -/
def told : Option Fl → Value
  | none => .tuple #[.string (str []), .bool false]
  | some f => .tuple #[.string (str f.bs), .bool true]
set_option maxRecDepth 100000 in
theorem read_c (h : DiskAt x W) {s : Nm} (hs : s.length ≤ maxLen) : Calls Tryz.prog 31 #[.pointer (some ⟨x.d, 0, none⟩), .string (str s)] W fun e W' => e = .returned (told (x.fs s)) ∧ W' = W := by
  obtain ⟨⟨_, c1, _⟩, _⟩ := h.reads
  have hl := h.look hs
  cases hf : x.fs s with
  | none =>
    rw [hf] at hl
    simp only [ptrF] at hl
    clear h hf
    generalize str s = y at *
    go_enter Tryz.func31, Tryz.ntmps31
    go_wp2_with fail
    go_ret2
    exact ⟨rfl, rfl⟩
  | some f =>
    rw [hf] at hl
    simp only [ptrF] at hl
    obtain ⟨h1, h2⟩ := h.file s f hf
    obtain ⟨a, c, hv⟩ := own_any h2
    rw [hv] at h1 h2
    have hc := own_conv h2 f.bs.length (Nat.le_refl _)
    rw [List.take_length] at hc
    have d0 : W.cell? ⟨f.b, 0, none⟩ = some (.slice a f.bs.length c) := cell_of h1 0
    clear h hf h1 h2
    generalize str s = y at *
    generalize hz : str f.bs = z at *
    have HZ := Lib.hid hz
    clear hz
    go_enter Tryz.func31, Tryz.ntmps31
    go_wp2_with fail
    go_ret2
    exact ⟨by rw [told, HZ.out]; rfl, rfl⟩
set_option maxRecDepth 100000 in
theorem crash_c (h : DiskAt x W) : Calls Tryz.prog 76 #[.pointer (some ⟨x.d, 0, none⟩)] W fun e W' => e = .returned (.tuple #[]) ∧ DiskAt { x with dead := true } W' ∧ Chg x.ft x.ft W W' := by
  obtain ⟨⟨_, _, _, _, _, c5⟩, f5⟩ := h.reads
  have f5 := f5 5
  have HZ := Lib.hid (h.set 5 (.bool true) { x with dead := true } rfl rfl rfl rfl rfl)
  clear h
  go_enter Tryz.func76, Tryz.ntmps76
  go_wp2_with fail
  go_end0
  exact ⟨rfl, HZ.out⟩
set_option maxRecDepth 100000 in
theorem arm_c (h : DiskAt x W) (after torn : Int) : Calls Tryz.prog 24 #[.pointer (some ⟨x.d, 0, none⟩), .int .i64 after, .int .i64 torn] W fun e W' => e = .returned (.tuple #[]) ∧ DiskAt { x with after := after, torn := torn } W' ∧ Chg x.ft x.ft W W' := by
  obtain ⟨⟨_, _, _, c3, c4, c5⟩, f5⟩ := h.reads
  have f3 := f5 3
  have f4 := f5 4
  have h1 := h.set 3 (.int .i64 after) { x with after := after } rfl rfl rfl rfl rfl
  have h2 := h1.1.set 4 (.int .i64 torn) { x with after := after, torn := torn } rfl rfl rfl rfl rfl
  have HZ := Lib.hid (And.intro h2.1 (h1.2.trans h2.2))
  clear h h1 h2 f5
  go_enter Tryz.func24, Tryz.ntmps24
  go_wp2_with fail
  go_end0
  exact ⟨rfl, HZ.out⟩
end
end Go.Proofs.YtialfpkmcafkmaaGreat
