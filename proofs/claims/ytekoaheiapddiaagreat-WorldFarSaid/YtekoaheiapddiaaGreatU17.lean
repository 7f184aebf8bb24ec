/- Merged: Lr7, Shelf, Vc, Vd, Ve. -/
import Derived.Test.YtekoaheiapddiaaGreatU16
import Derived.Shelf.Strings.Builder1
import Derived.Shelf.Strings.Builder2
import Derived.Shelf.Small.Bits
import Derived.Shelf.Strings.BuilderF
import Derived.Shelf.Strings.BuilderK
import Derived.Shelf.Strings.Builder2Cap
import Derived.Shelf.Strconv.Itoa0
import Derived.Shelf.LaysM
import Derived.Shelf.Strconv.Clone
import Derived.Shelf.Strings.BuilderCap
import Derived.Ground.Names2Prog
import Derived.Shelf.Slices.Clone
import Derived.Ground.SlgmProg
import Derived.Shelf.SortM.Plain
import Derived.Shelf.SortM.SortNone
import Derived.Test.YtekoaheiapddiaaGreatProg
import Derived.Test.YtekoaheiapddiaaGreatU11
import Derived.Test.YtekoaheiapddiaaGreatU13
import Derived.Test.YtekoaheiapddiaaGreatU14
section
namespace Go.Proofs.YtekoaheiapddiaaGreat
open Go.RowKit

/-- The number that a text is. -/
def smallR : It → Nat × Bool
  | .text s => if smallL s then (val s, true) else (0, false)
  | .list _ => (0, false)
theorem smallL_ne {s : List UInt8} (h8 : s.length ≤ 8) (h : smallL s = false) : ∃ r, s = 0 :: r := by
  rcases s with _ | ⟨b, r⟩
  · simp [smallL] at h
  · simp [smallL] at h
    have := h (by simpa using h8)
    exact ⟨r, by rw [this]⟩
theorem smallL_ok {s : List UInt8} (h : smallL s = true) : s.length ≤ 8 ∧ s.head? ≠ some 0 := by simpa [smallL] using h
theorem small_it (S : Nat → Prop) (x : It) (v : Value) (w : World) (hv : ItV S x v w) : Calls Tryz.prog 231 #[v] w fun e w' => e = .returned (.tuple #[.int .u64 ((smallR x).1 : Nat), .bool (smallR x).2]) ∧ Below w.heap.size w w' := by
  cases x with
  | list i => obtain ⟨u, rfl, _⟩ := hv; exact small_list_c _ _ w
  | text s =>
    obtain rfl : v = .agg #[.bool false, .string (str s), .slice none 0 0] := hv
    by_cases h : smallL s = true
    · rw [show smallR (.text s) = (val s, true) from if_pos h]
      exact small_ok_c s _ (smallL_ok h).1 (smallL_ok h).2 w
    · have h' : smallL s = false := by simpa using h
      rw [show smallR (.text s) = (0, false) from if_neg h]
      by_cases h8 : s.length ≤ 8
      · obtain ⟨r, rfl⟩ := smallL_ne h8 h'
        exact small_zero_c _ _ (by rw [str_size]; exact h8) (by rw [str_size]; simp) (by rw [str_get]; rfl) w
      · exact small_long_c _ _ (by rw [str_size]; omega) w
end Go.Proofs.YtekoaheiapddiaaGreat
end
section
namespace Go.Proofs
open Go.Shelf
def Tryz.laysM316_ren : Go.Shelf.Ren := ⟨fun | 316 => 133 | n => n, fun | 9 => 9 | 3 => 3 | 4 => 4 | 37 => 218 | 0 => 0 | 127 => 274 | 5 => 5 | n => n, fun | n => n⟩
theorem Tryz.laysM316 : Go.Proofs.LaysM.n316 Tryz.prog Tryz.laysM316_ren := {
  mixed := by kernel_rfl
  f316 := Tryz.func133.trans (congrArg some (by kernel_rfl))
  t0 := Tryz.underlying0
  a0 := Tryz.isAgg0
  z0 := Tryz.sizeOf0
  v0 := Tryz.zeroValue0
  t3 := Tryz.underlying3
  a3 := Tryz.isAgg3
  z3 := Tryz.sizeOf3
  v3 := Tryz.zeroValue3
  t4 := Tryz.underlying4
  a4 := Tryz.isAgg4
  z4 := Tryz.sizeOf4
  v4 := Tryz.zeroValue4
  t9 := Tryz.underlying9
  a9 := Tryz.isAgg9
  z9 := Tryz.sizeOf9
  v9 := Tryz.zeroValue9
  t37 := Tryz.underlying218
  a37 := Tryz.isAgg218
  z37 := Tryz.sizeOf218
  v37 := Tryz.zeroValue218
  t127 := Tryz.underlying274
  a127 := Tryz.isAgg274
  z127 := Tryz.sizeOf274
  v127 := Tryz.zeroValue274
  t5 := Tryz.underlying5
  a5 := Tryz.isAgg5
  z5 := Tryz.sizeOf5
  v5 := Tryz.zeroValue5
  i0 := by kernel_rfl
  i3 := by kernel_rfl
  i4 := by kernel_rfl
  i5 := by kernel_rfl
  i9 := by kernel_rfl
  i37 := by kernel_rfl
  i127 := by kernel_rfl }
open Go.RowKit in
/-- internal/stringslite.Clone (what strings.Clone calls): "Clone returns a fresh copy of s.": THE SAME BYTES. Of what was there nothing has turned (a new row is laid, and frozen, where s is not empty). (LAID: no walk: one application.) -/
theorem Tryz.stringslite_Clone (s : ByteArray) (w : World) (hlim : s.size ≤ 281474976710656) :
    Calls Tryz.prog 133 #[.string s] w fun e w' => e = .returned (.string s) ∧ Below w.heap.size w w' := Any.stringslite_Clone Tryz.laysM316 s w hlim
def Tryz.laysNm216_ren : Go.Shelf.Ren := ⟨fun | 16 => 65 | n => n, fun | 24 => 38 | 9 => 9 | 4 => 4 | n => n, fun | n => n⟩
theorem Tryz.laysNm216 : Go.Proofs.Lays2.n16 Tryz.prog Tryz.laysNm216_ren := {
  mixed := by kernel_rfl
  f16 := Tryz.func65.trans (congrArg some (by kernel_rfl))
  t4 := Tryz.underlying4
  a4 := Tryz.isAgg4
  z4 := Tryz.sizeOf4
  v4 := Tryz.zeroValue4
  t9 := Tryz.underlying9
  a9 := Tryz.isAgg9
  z9 := Tryz.sizeOf9
  v9 := Tryz.zeroValue9
  t24 := Tryz.underlying38
  a24 := Tryz.isAgg38
  z24 := Tryz.sizeOf38
  v24 := Tryz.zeroValue38
  i9 := by kernel_rfl }
open Go.RowKit Go.Lib in
/-- slices.Clone at []string: "Clone returns a copy of the slice. The elements are copied using assignment, so this is a shallow clone. The result may have additional unused capacity. The result preserves the nilness of s.": OF A SLICE THAT IS NOT nil IT RETURNS A SLICE THAT IS NOT nil, OF THE SAME ELEMENTS, IN MEMORY OF THE CALL's OWN: in the how-to's words (6f): 'w'.ownsRow B e 1 v' n cells': v' begins at the head of a row among the blocks from B on (B: the heap's size at the call), not frozen, whose first cells are the elements · 'Below B w w'': below B all is as it was. The capacity is whatever the run-time gives. 'zs': what the cells behind the slice's address hold; 'zs.take n': its elements. (LAID: no walk: one application.) -/
theorem Tryz.slices_Clone_string (b off n c : Nat) (zs : List ByteArray) (w : World) (hz : n ≤ zs.length) (hbig : n * 16 ≤ 140737488355328) (hc : ∀ j, j < zs.length → w.cell? ⟨b, off + j, none⟩ = some (.string (zs.getD j ByteArray.empty))) :
    Calls Tryz.prog 65 #[.slice (some ⟨b, off, none⟩) n c] w fun e w' => ∃ v', e = .returned v' ∧ w'.ownsRow w.heap.size 9 1 v' n ((zs.take n).map (Value.string)) ∧ v' ≠ .slice none 0 0 ∧ Below w.heap.size w w' := Any.slices_Clone_string Tryz.laysNm216 b off n c zs w hz hbig hc
open Go.RowKit Go.Lib in
/-- The same at nil: nil comes back; the world is as it was. (LAID: no walk: one application.) -/
theorem Tryz.slices_Clone_string_nil (n c : Nat) (w : World) :
    Calls Tryz.prog 65 #[.slice none n c] w fun e w' => e = .returned (.slice none 0 0) ∧ w' = w := Any.slices_Clone_string_nil Tryz.laysNm216 n c w
end Go.Proofs
end
section
namespace Go.Proofs.YtekoaheiapddiaaGreat
open Go.RowKit

/-- An item's own text. -/
def It.txt : It → List UInt8
  | .text s => s
  | .list _ => []
theorem ItV.txt {S : Nat → Prop} {x : It} {v : Value} {W : World} (h : ItV S x v W) : ∃ b l, v = .agg #[.bool b, .string (str x.txt), l] := by
  cases x with
  | text s => exact ⟨_, _, h⟩
  | list i => obtain ⟨u, e, _⟩ := h; exact ⟨_, _, e⟩
theorem It.txt_len (x : It) (r : Fo) : x.txt.length + r.enc.length ≤ (x.fo r).enc.length := by
  cases x with
  | text s => simp only [It.txt, It.fo, Fo.enc, List.length_append, encT_len]; omega
  | list i => simp only [It.txt, It.fo, Fo.enc, List.length_append, List.length_nil]; omega
/-- What a field's reader hands back: a value, what is left; or it panics. -/
def StepR (S : Nat → Prop) (g : Nat) (o : Option (Value × Fo)) (w : World) (e : Ending) (w' : World) : Prop :=
  Only (fun k => k = g) w.heap.size w w' ∧ match o with
    | some (v, r) => e = .returned v ∧ Fd S g r w'
    | none => e = .panicked boom
theorem StepR.some {S : Nat → Prop} {g : Nat} {v : Value} {r : Fo} {w w' : World} {e : Ending} (h1 : Only (fun k => k = g) w.heap.size w w') (h2 : e = .returned v) (h3 : Fd S g r w') : StepR S g (some (v, r)) w e w' := ⟨h1, h2, h3⟩
theorem StepR.none {S : Nat → Prop} {g : Nat} {w w' : World} {e : Ending} (h1 : Only (fun k => k = g) w.heap.size w w') (h2 : e = .panicked boom) : StepR S g none w e w' := ⟨h1, h2⟩
theorem Only.behind {g : Nat} {w w1 w2 : World} (h : Only (fun k => k = g) w.heap.size w w1) (hb : Below w1.heap.size w1 w2) : Only (fun k => k = g) w.heap.size w w2 :=
  h.trans (Only.of_below (hb.mono h.size))
theorem Only.set4 {may : Nat → Prop} {B b : Nat} {a w : World} (h : Only may B a w) (hb : B ≤ b) (u0 u1 u2 u3 : Value) : Only may B a ((((w.setCell ⟨b, 0, none⟩ u0).setCell ⟨b, 1, none⟩ u1).setCell ⟨b, 2, none⟩ u2).setCell ⟨b, 3, none⟩ u3) :=
  (((h.setCell (p := ⟨b, 0, none⟩) (Or.inl hb) u0).setCell (p := ⟨b, 1, none⟩) (Or.inl hb) u1).setCell (p := ⟨b, 2, none⟩) (Or.inl hb) u2).setCell (p := ⟨b, 3, none⟩) (Or.inl hb) u3
theorem Fd.keep {S : Nat → Prop} {g : Nat} {f : Fo} {W W' : World} (h : Fd S g f W) (hk : ∀ k, S k ∨ k = g → W'.heap[k]? = W.heap[k]?) (hs : W.heap.size ≤ W'.heap.size) : Fd S g f W' := by
  obtain ⟨v, h1, h2⟩ := h.row
  exact ⟨fun k hk => ⟨Nat.lt_of_lt_of_le (h.lt k hk).1 hs, (h.lt k hk).2⟩, v, (hk _ (Or.inr rfl)).trans h1, h2.kept fun k h => hk k (Or.inl h)⟩
theorem Fd.set4 {S : Nat → Prop} {g b : Nat} {f : Fo} {W : World} (h : Fd S g f W) (hb : ∀ k, S k ∨ k = g → k ≠ b) (u0 u1 u2 u3 : Value) : Fd S g f ((((W.setCell ⟨b, 0, none⟩ u0).setCell ⟨b, 1, none⟩ u1).setCell ⟨b, 2, none⟩ u2).setCell ⟨b, 3, none⟩ u3) :=
  h.keep (fun k hk => by
    have := hb k hk
    rw [heap_setCell_other _ _ _ _ (by simpa using this), heap_setCell_other _ _ _ _ (by simpa using this), heap_setCell_other _ _ _ _ (by simpa using this), heap_setCell_other _ _ _ _ (by simpa using this)]) (by simp [World.setCell])
def wordV (n : Nat) : Value := .agg #[.int .u64 (l3 n : Nat), .int .u64 (l2 n : Nat), .int .u64 (l1 n : Nat), .int .u64 (l0 n : Nat)]
def numO : Fo → Option (Value × Fo)
  | .nil => none
  | .text s r => if smallL s = true then some (.int .u64 (val s : Nat), r) else none
  | .list _ _ => none
def textO : Fo → Option (Value × Fo)
  | .nil => none
  | .text s r => some (.string (str s), r)
  | .list _ r => some (.string (str []), r)
def wordO : Fo → Option (Value × Fo)
  | .nil => none
  | .text s r => if s.length ≤ 32 then some (wordV (ofL s), r) else none
  | .list _ r => some (wordV 0, r)
theorem numO_it (x : It) (r : Fo) : numO (x.fo r) = if (smallR x).2 = true then some (.int .u64 ((smallR x).1 : Nat), r) else none := by
  cases x with
  | text s => simp only [numO, It.fo, smallR]; split <;> simp
  | list i => rfl
theorem textO_it (x : It) (r : Fo) : textO (x.fo r) = some (.string (str x.txt), r) := by cases x <;> rfl
theorem wordO_it (x : It) (r : Fo) : wordO (x.fo r) = if x.txt.length ≤ 32 then some (wordV (ofL x.txt), r) else none := by
  cases x with
  | text s => rfl
  | list i => show some (wordV 0, r) = if ([] : List UInt8).length ≤ 32 then some (wordV (ofL []), r) else none; rw [if_pos (by simp)]; rfl
section
variable {S : Nat → Prop} {g : Nat} {f : Fo} {w : World}
set_option maxRecDepth 100000 in
theorem number_f (h : Fd S g f w) (hl : f.enc.length ≤ 70000) : Calls Tryz.prog 187 #[.pointer (some ⟨g, 0, none⟩)] w fun e w' => StepR S g (numO f) w e w' := by
  rcases Fo.cases_it f with rfl | ⟨x, r, rfl⟩
  · have C := Lib.hid (next_none h)
    clear h hl
    go_enter Tryz.func187, Tryz.ntmps187
    go_wp2_with (go_at_call 232; refine C.out.mono ?_; rintro e w1 ⟨rfl, h1⟩)
    exact ⟨rfl, StepR.none (Only.of_below h1) rfl⟩
  · rw [numO_it]
    have hr : r.len < 100000 := by have := r.len_enc; have := x.txt_len r; omega
    have C := Lib.hid (next_some h hr)
    clear h hl hr
    have HN := Lib.hid (fun v W (hv : ItV S x v W) => small_it S x v W hv)
    generalize (smallR x).1 = n at *
    generalize (smallR x).2 = ok at *
    replace HN := HN
    go_enter Tryz.func187, Tryz.ntmps187
    cases ok
    · rw [if_neg (by decide)]
      go_wp2_with (first | (go_at_call 232; refine C.out.mono ?_; rintro e w1 ⟨v, rfl, k1, k2, k3⟩; have HK := Lib.hid (And.intro k1 (And.intro k2 k3)); clear k1 k2 k3) | (go_at_call 231; refine (HN.out _ _ HK.out.1).mono ?_; rintro e w2 ⟨rfl, hb⟩; have HB := Lib.hid hb; clear hb) | (go_at_call 186; refine (wmust_no _).mono ?_; rintro e w1 ⟨rfl, rfl⟩))
      exact ⟨rfl, StepR.none (HK.out.2.2.behind HB.out) rfl⟩
    · rw [if_pos rfl]
      go_wp2_with (first | (go_at_call 232; refine C.out.mono ?_; rintro e w1 ⟨v, rfl, k1, k2, k3⟩; have HK := Lib.hid (And.intro k1 (And.intro k2 k3)); clear k1 k2 k3) | (go_at_call 231; refine (HN.out _ _ HK.out.1).mono ?_; rintro e w2 ⟨rfl, hb⟩; have HB := Lib.hid hb; clear hb) | (go_at_call 186; refine (wmust_ok _).mono ?_; rintro e w1 ⟨rfl, rfl⟩))
      go_ret
      exact StepR.some (HK.out.2.2.behind HB.out) rfl (HK.out.2.1.call HB.out)
theorem sclone_c (s : ByteArray) (w : World) (hlim : s.size ≤ 281474976710656) : Calls Tryz.prog 87 #[.string s] w fun e w' => e = .returned (.string s) ∧ Below w.heap.size w w' := by
  have C := Lib.hid (Tryz.stringslite_Clone s w hlim)
  clear hlim
  go_enter Tryz.func87, Tryz.ntmps87
  go_wp2_with (go_at_call 133; refine C.out.mono ?_; rintro e w1 ⟨rfl, h1⟩)
  go_ret
  exact ⟨rfl, h1⟩
theorem field_s (b : Bool) (s : ByteArray) (l : Value) (w : World) : (Instr.field 198 (.agg #[.bool b, .string s, l]) 1).run Tryz.prog w = .ok (.string s) w := by
  simp [Instr.field, run_underlying Tryz.underlying198]
  kernel_rfl
set_option maxRecDepth 100000 in
theorem text_f (h : Fd S g f w) (hl : f.enc.length ≤ 70000) : Calls Tryz.prog 188 #[.pointer (some ⟨g, 0, none⟩)] w fun e w' => StepR S g (textO f) w e w' := by
  rcases Fo.cases_it f with rfl | ⟨x, r, rfl⟩
  · have C := Lib.hid (next_none h)
    clear h hl
    go_enter Tryz.func188, Tryz.ntmps188
    go_wp2_with (go_at_call 232; refine C.out.mono ?_; rintro e w1 ⟨rfl, h1⟩)
    exact ⟨rfl, StepR.none (Only.of_below h1) rfl⟩
  · rw [textO_it]
    have hr : r.len < 100000 := by have := r.len_enc; have := x.txt_len r; omega
    have C := Lib.hid (next_some h hr)
    have HN := Lib.hid (fun W => sclone_c (str x.txt) W (by rw [str_size]; have := x.txt_len r; omega))
    have HT := Lib.hid (fun v W (hv : ItV S x v W) => hv.txt)
    have hfs := field_s
    clear h hl hr
    generalize str x.txt = t at *
    go_enter Tryz.func188, Tryz.ntmps188
    go_wp2_with (first | (go_at_call 232; refine C.out.mono ?_; rintro e w1 ⟨v, rfl, k1, k2, k3⟩; obtain ⟨b1, t1, rfl⟩ := HT.out _ _ k1; have HK := Lib.hid (And.intro k2 k3); clear k1 k2 k3) | (go_at_call 87; refine (HN.out _).mono ?_; rintro e w2 ⟨rfl, hb⟩; have HB := Lib.hid hb; clear hb))
    go_ret
    exact StepR.some (HK.out.2.behind HB.out) rfl (HK.out.1.call HB.out)
/-- word.Of by the number. -/
theorem of_c (s : List UInt8) (w : World) : Calls Tryz.prog 233 #[.string (str s)] w fun e w' => e = .returned (.tuple #[wordV (if s.length ≤ 32 then ofL s else 0), .bool (decide (s.length ≤ 32))]) ∧ Below w.heap.size w w' := by
  by_cases h : s.length ≤ 32
  · rw [if_pos h]
    refine (Of_short (str s) (by rw [str_size]; exact h) w).mono ?_
    rintro e w' ⟨n, s3, s2, s1, s0, rfl, hd, rfl, hb⟩
    obtain ⟨rfl, rfl, rfl, rfl⟩ := dig_eq hd
    exact ⟨by simp [h, wordV, ofL], hb⟩
  · rw [if_neg h]
    refine (Of_long (str s) (by rw [str_size]; omega) w).mono ?_
    rintro e w' ⟨rfl, hb⟩
    exact ⟨by simp [h, wordV, lim_zero], hb⟩
set_option maxRecDepth 100000 in
theorem word_f (h : Fd S g f w) (hl : f.enc.length ≤ 70000) : Calls Tryz.prog 189 #[.pointer (some ⟨g, 0, none⟩)] w fun e w' => StepR S g (wordO f) w e w' := by
  have hal : Below w.heap.size w (w.alloc (.cells #[.int .u64 0, .int .u64 0, .int .u64 0, .int .u64 0] 61)) := (Below.refl _ _).alloc (Nat.le_refl _) _
  have hn0 : (w.alloc (.cells #[.int .u64 0, .int .u64 0, .int .u64 0, .int .u64 0] 61)).heap[w.heap.size]? = _ := heap_alloc_new _ _
  have hgl := h.blt
  have hS := h.lt
  rcases Fo.cases_it f with rfl | ⟨x, r, rfl⟩
  · have C := Lib.hid (next_none (h.call hal))
    have HL := Lib.hid hal
    clear h hl hal hn0
    go_enter Tryz.func189, Tryz.ntmps189
    go_wp2_with (go_at_call 232; refine C.out.mono ?_; rintro e w1 ⟨rfl, h1⟩)
    exact ⟨rfl, StepR.none (Only.of_below (HL.out.trans (h1.mono (by simp)))) rfl⟩
  · rw [wordO_it]
    have hr : r.len < 100000 := by have := r.len_enc; have := x.txt_len r; omega
    have C := Lib.hid (next_some (h.call hal) hr)
    have HN := Lib.hid (fun W => of_c x.txt W)
    have HT := Lib.hid (fun v W (hv : ItV S x v W) => hv.txt)
    have hfs := field_s
    have HL := Lib.hid (And.intro hal (And.intro hn0 (And.intro hgl hS)))
    clear h hl hr hal hn0 hgl hS
    generalize str x.txt = t at *
    by_cases h32 : x.txt.length ≤ 32
    · rw [if_pos h32] at HN ⊢
      rw [show decide (x.txt.length ≤ 32) = true by simp [h32]] at HN
      clear h32
      generalize ofL x.txt = n at *
      unfold wordV at *
      go_enter Tryz.func189, Tryz.ntmps189
      go_wp2_with (first | (go_at_call 232; refine C.out.mono ?_; rintro e w1 ⟨v, rfl, k1, k2, k3⟩; obtain ⟨b1, t1, rfl⟩ := HT.out _ _ k1; have kb := (k3.block w.heap.size (by simp) (by have := HL.out.2.2.1; omega)).trans HL.out.2.1; have HK := Lib.hid (And.intro k2 (And.intro k3 kb)); clear k1 k2 k3 kb) | (go_at_call 233; refine (HN.out _).mono ?_; rintro e w2 ⟨rfl, hb⟩; have kb := (hb.block _ (lt_of HK.out.2.2)).trans HK.out.2.2; have kb3 := (Below.heap_alloc w2 (.cells #[.int .u64 (l3 n : Nat), .int .u64 (l2 n : Nat), .int .u64 (l1 n : Nat), .int .u64 (l0 n : Nat)] 61) _ (lt_of kb)).trans kb; obtain ⟨⟨c0, c1, c2, c3⟩, z0, z1, z2, z3⟩ := cells4 kb3; have HB := Lib.hid (And.intro hb kb3); clear hb kb kb3) | (go_at_call 186; refine (wmust_ok _).mono ?_; rintro e w1 ⟨rfl, rfl⟩))
      have hF := ((HK.out.1.call HB.out.1).call ((Below.refl w2.heap.size w2).alloc (Nat.le_refl _) (.cells #[.int .u64 (l3 n : Nat), .int .u64 (l2 n : Nat), .int .u64 (l1 n : Nat), .int .u64 (l0 n : Nat)] 61))).set4 (b := w.heap.size) (fun k hk => by rcases hk with hk | rfl; exact Nat.ne_of_lt (HL.out.2.2.2 k hk).1; exact Nat.ne_of_lt HL.out.2.2.1) (.int .u64 (l3 n : Nat)) (.int .u64 (l2 n : Nat)) (.int .u64 (l1 n : Nat)) (.int .u64 (l0 n : Nat))
      have hO := ((((Only.of_below (may := fun k => k = g) HL.out.1).trans (HK.out.2.1.mono (by simp) (fun _ _ h => h))).trans (Only.of_below (HB.out.1.mono (by have := HK.out.2.1.size; simp at this; omega)))).alloc (by have := HK.out.2.1.size; have := HB.out.1.size; simp at *; omega) (.cells #[.int .u64 (l3 n : Nat), .int .u64 (l2 n : Nat), .int .u64 (l1 n : Nat), .int .u64 (l0 n : Nat)] 61)).set4 (Nat.le_refl w.heap.size) (.int .u64 (l3 n : Nat)) (.int .u64 (l2 n : Nat)) (.int .u64 (l1 n : Nat)) (.int .u64 (l0 n : Nat))
      exact bodyPost_ret (results_cell_row Tryz.results189 _ _ _ _ _ _ _ rfl (heap_set4 HB.out.2 _ _ _ _) Tryz.underlying61 rfl (by kernel_rfl)) rfl (StepR.some hO rfl hF)
    · rw [if_neg h32] at HN ⊢
      rw [show decide (x.txt.length ≤ 32) = false by simp [h32]] at HN
      clear h32
      unfold wordV at *
      go_enter Tryz.func189, Tryz.ntmps189
      go_wp2_with (first | (go_at_call 232; refine C.out.mono ?_; rintro e w1 ⟨v, rfl, k1, k2, k3⟩; obtain ⟨b1, t1, rfl⟩ := HT.out _ _ k1; have kb := (k3.block w.heap.size (by simp) (by have := HL.out.2.2.1; omega)).trans HL.out.2.1; have HK := Lib.hid (And.intro k2 (And.intro k3 kb)); clear k1 k2 k3 kb) | (go_at_call 233; refine (HN.out _).mono ?_; rintro e w2 ⟨rfl, hb⟩; have HB := Lib.hid hb; clear hb) | (go_at_call 186; refine (wmust_no _).mono ?_; rintro e w1 ⟨rfl, rfl⟩))
      exact ⟨rfl, StepR.none (((((Only.of_below (may := fun k => k = g) HL.out.1).trans (HK.out.2.1.mono (by simp) (fun _ _ h => h))).trans (Only.of_below (HB.out.mono (by have := HK.out.2.1.size; simp at this; omega)))).alloc (by have := HK.out.2.1.size; have := HB.out.size; simp at *; omega) _)) rfl⟩
end
end Go.Proofs.YtekoaheiapddiaaGreat
end
section
namespace Go.Proofs.YtekoaheiapddiaaGreat
open Go.RowKit

set_option maxRecDepth 100000 in
theorem wordText_c {n : Nat} (hn : n < W256) (w : World) : Calls Tryz.prog 192 #[wordV n] w fun e w' => e = .returned (textV (str (wordL n))) ∧ Below w.heap.size w w' := by
  have hal : Below w.heap.size w ((w.alloc (.cells #[.int .u64 (l3 n : Nat), .int .u64 (l2 n : Nat), .int .u64 (l1 n : Nat), .int .u64 (l0 n : Nat)] 61)).alloc (.cells #[.bool false, .string ⟨#[]⟩, .slice none 0 0] 198)) := ((Below.refl _ _).alloc (Nat.le_refl _) _).alloc (by simp) _
  have hr := heap_alloc2_new w (.cells #[.int .u64 (l3 n : Nat), .int .u64 (l2 n : Nat), .int .u64 (l1 n : Nat), .int .u64 (l0 n : Nat)] 61) (.cells #[.bool false, .string ⟨#[]⟩, .slice none 0 0] 198)
  have C := Lib.hid (fun W => Bytes_c (dig_of hn) W)
  rw [bytesOf_str] at C
  have HL := Lib.hid (And.intro hal hr)
  clear hal hr hn
  generalize str (wordL n) = s at *
  unfold wordV textV
  go_enter Tryz.func192, Tryz.ntmps192
  go_wp2_with (first | (go_at_call 234; refine (C.out _).mono ?_; rintro e w1 ⟨rfl, h1⟩; have H1 := Lib.hid h1; clear h1) | (go_at_call 182; refine (text_c _ _).mono ?_; unfold textV; rintro e w2 ⟨rfl, h2⟩; have hb := HL.out.1.trans ((H1.out.mono (by simp; omega)).trans (h2.mono (by have := H1.out.size; simp at this; omega))); have kb := (h2.block _ (by have := H1.out.size; simp at this; omega)).trans ((H1.out.block _ (by simp)).trans HL.out.2); obtain ⟨⟨c0, c1, c2⟩, z0, z1, z2⟩ := cells3 kb; have H2 := Lib.hid (And.intro hb kb); clear h2 hb kb))
  exact bodyPost_ret (results_cell_row Tryz.results192 _ _ _ _ _ _ _ rfl (heap_set3 H2.out.2 _ _ _) Tryz.underlying198 rfl (by kernel_rfl)) rfl ⟨rfl, below_set3 H2.out.1 (by omega) _ _ _⟩
set_option maxRecDepth 100000 in
theorem encoded_c {S : Nat → Prop} {f : Fo} {v : Value} {w : World} (h : SlF S f v w) (hS : ∀ k, S k → k < w.heap.size) (hn : f.siz ≤ 1000) (hl : f.enc.length ≤ 60000) :
    Calls Tryz.prog 191 #[v] w fun e w' => e = .returned (.string (str (It.list f).enc)) ∧ Below w.heap.size w w' := by
  have hlen := It.list_len f (by omega)
  have hevs := (It.list f).evs_len
  have C := Lib.hid (listS_c S f v w h hS (by omega))
  have C2 := Lib.hid (fun (T : Nat → Prop) u W (hT : ∀ k, T k → k < W.heap.size) (hu : ItV T (.list f) u W) => encode_c T (.list f) u W hT hu (by omega) (by omega))
  have HS := Lib.hid hS
  obtain ⟨va, vn, vc, rfl⟩ := h.form
  clear h hS hn hl hlen hevs
  go_enter Tryz.func191, Tryz.ntmps191
  go_wp2_with (first | (go_at_call 226; refine C.out.mono ?_; rintro e w1 ⟨u, rfl, h1, h2⟩; have H1 := Lib.hid (And.intro h1 h2); clear h1 h2) | (go_at_call 225; refine (C2.out _ _ _ (fun k hk => by rcases hk with hk | hk; exact Nat.lt_of_lt_of_le (HS.out k hk) H1.out.2.size; exact hk.2) H1.out.1).mono ?_; rintro e w2 ⟨rfl, h2⟩; have H2 := Lib.hid h2; clear h2))
  go_ret
  exact ⟨rfl, H1.out.2.trans (H2.out.mono H1.out.2.size)⟩
theorem eq_zero {n : Nat} (hn : n < W256) (w : World) : (binOp .eql 61 (wordV n) (.agg #[.int .u64 0, .int .u64 0, .int .u64 0, .int .u64 0])).run Tryz.prog w = .ok (.bool (decide (n = 0))) w := by
  unfold wordV
  rw [eq_words]
  congr 2
  by_cases h : n = 0
  · subst h; decide
  · rw [show decide (n = 0) = false by simp [h]]
    simp only [Bool.and_eq_false_iff, beq_eq_false_iff_ne, ne_eq]
    by_cases h3 : ((l3 n : Nat) : Int) = 0
    · by_cases h2 : ((l2 n : Nat) : Int) = 0
      · by_cases h1 : ((l1 n : Nat) : Int) = 0
        · by_cases h0 : ((l0 n : Nat) : Int) = 0
          · exact absurd (lim_nil hn (by omega) (by omega) (by omega) (by omega)) h
          · exact Or.inr (Or.inr (Or.inr h0))
        · exact Or.inr (Or.inr (Or.inl h1))
      · exact Or.inr (Or.inl h2)
    · exact Or.inl h3
/-- A row of items just made. -/
theorem own_lit (W : World) (f : Fo) (cs : Array Value) (hc : Cel (fun _ => False) f cs.toList W) (n : Nat) (hn : n = f.len) (hm : n ≤ 1000) : Own W.heap.size f (.slice (some ⟨W.heap.size, 0, none⟩) n n) (W.alloc (.cells cs 198)) := by
  subst hn
  have hl : cs.size = f.len * 3 := by rw [← Array.length_toList]; exact hc.length
  refine ⟨fun _ => False, cs.toList, ⟨by rw [Array.length_toList]; exact hl, Or.inr ⟨W.heap.size, f.len, cs, rfl, Nat.le_refl _, heap_alloc_new _ _, Nat.le_refl _, by unfold maxLen; omega, hl, ?_⟩⟩, hc.kept (fun _ h => h.elim) _ _, fun _ h => h.elim⟩
  rw [List.take_of_length_le (by rw [Array.length_toList]; omega)]
def askCells (a : AskP) : Array Value := #[.int .u64 a.id, .string (str a.addr), .int .u64 (l3 a.slot : Nat), .int .u64 (l2 a.slot : Nat), .int .u64 (l1 a.slot : Nat), .int .u64 (l0 a.slot : Nat), .int .i64 a.kind]
/-- An ask's box. -/
def AskB (w : World) (a : AskP) (V : World) : Prop := Below w.heap.size w V ∧ V.heap[w.heap.size]? = some (.cells (askCells a) 117 (0, 0))
theorem AskB.cells {w V : World} {a : AskP} (h : AskB w a V) : V.cell? ⟨w.heap.size, 0, none⟩ = some (.int .u64 a.id) ∧ V.cell? ⟨w.heap.size, 1, none⟩ = some (.string (str a.addr)) ∧ V.cell? ⟨w.heap.size, 2, none⟩ = some (.int .u64 (l3 a.slot : Nat)) ∧ V.cell? ⟨w.heap.size, 3, none⟩ = some (.int .u64 (l2 a.slot : Nat)) ∧ V.cell? ⟨w.heap.size, 4, none⟩ = some (.int .u64 (l1 a.slot : Nat)) ∧ V.cell? ⟨w.heap.size, 5, none⟩ = some (.int .u64 (l0 a.slot : Nat)) ∧ V.cell? ⟨w.heap.size, 6, none⟩ = some (.int .i64 a.kind) :=
  ⟨cell_of h.2 0, cell_of h.2 1, cell_of h.2 2, cell_of h.2 3, cell_of h.2 4, cell_of h.2 5, cell_of h.2 6⟩
theorem AskB.call {w V V' : World} {a : AskP} (h : AskB w a V) (hb : Below V.heap.size V V') : AskB w a V' := ⟨h.1.trans (hb.mono h.1.size), (hb.block _ (lt_of h.2)).trans h.2⟩
theorem AskB.start (w : World) (a : AskP) : AskB w a (w.alloc (.cells (askCells a) 117)) := ⟨(Below.refl _ _).alloc (Nat.le_refl _) _, heap_alloc_new _ _⟩
/-- What PutAsk answers. -/
def putAskV (a : AskP) : Value := .tuple #[.string (str (if a.Ok then a.enc else [])), .bool (decide a.Ok)]
theorem putAskV_no {a : AskP} (h : ¬ a.Ok) : putAskV a = .tuple #[.string ⟨#[]⟩, .bool false] := by unfold putAskV; rw [if_neg h]; simp [h]; rfl
theorem putAskV_ok {a : AskP} (h : a.Ok) : putAskV a = .tuple #[.string (str a.enc), .bool true] := by unfold putAskV; rw [if_pos h]; simp [h]
set_option maxRecDepth 100000 in
theorem putAsk_bad {a : AskP} (hl : a.addr.length ≠ 20) (w : World) : Calls Tryz.prog 149 #[askV a] w fun e w' => e = .returned (putAskV a) ∧ Below w.heap.size w w' := by
  rw [putAskV_no (fun h => hl h.1)]
  have h0 := AskB.start w a
  obtain ⟨c0, c1, _⟩ := h0.cells
  have H := Lib.hid h0.1
  have hz : ¬ ((str a.addr).size : Int) = 20 := by rw [str_size]; omega
  clear h0 hl
  unfold askV askCells at *
  go_enter Tryz.func149, Tryz.ntmps149
  go_wp2_with fail
  go_ret2
  exact ⟨rfl, H.out⟩
theorem fo3_cel (s t u : List UInt8) (W : World) : Cel (fun _ => False) (.text s (.text t (.text u .nil))) [.bool false, .string (str s), .slice none 0 0, .bool false, .string (str t), .slice none 0 0, .bool false, .string (str u), .slice none 0 0] W := ⟨_, rfl, _, rfl, _, rfl, rfl⟩
set_option maxRecDepth 100000 in
set_option maxHeartbeats 2000000 in
theorem putAsk_20 {a : AskP} (hl : a.addr.length = 20) (hw : a.Wf) (w : World) : Calls Tryz.prog 149 #[askV a] w fun e w' => e = .returned (putAskV a) ∧ Below w.heap.size w w' := by
  obtain ⟨k64, hk64, hkM⟩ : ∃ k64 : Nat, IntKind.u64.wrap a.kind = (k64 : Int) ∧ k64 < M64 := by
    rw [IntKind.wrap_u64]
    unfold M64
    exact ⟨(a.kind % 18446744073709551616).toNat, by omega, by omega⟩
  have K0 := Lib.hid (AskB.start w a)
  have hz : ((str a.addr).size : Int) = 20 := by rw [str_size]; omega
  have HC1 := Lib.hid (fun W => number_c a.id hw.id W)
  have HC2 := Lib.hid (fun W => number_c k64 hkM W)
  obtain ⟨c0, c1, c2, c3, c4, c5, c6⟩ := K0.out.cells
  have HC3 := Lib.hid (fun W => text_c (str a.addr) W)
  unfold textV at HC1 HC2 HC3
  have HW := Lib.hid (And.intro hl (And.intro hw (And.intro hk64 hkM)))
  clear hl hw hkM
  unfold askV
  unfold askCells at c0 c1 c2 c3 c4 c5 c6
  go_enter Tryz.func149, Tryz.ntmps149
  go_wp2_with fail
  clear c0 c1 c2 c3 c4 c5 c6
  have H0 : AskB w a (w.alloc (.cells (askCells a) 117)).drew := K0.out.call (Below.refl _ _).drew
  have HS := Lib.hid (fun (V : World) (hV : AskB w a V) => hV.cells)
  refine Drawn.start (fun V => AskB w a V) (fun _ => false) (by kernel_rfl) ?_
  refine Drawn.take 0 (some 9) (v := ?_) rfl rfl (by kernel_rfl) (by kernel_rfl) (by kernel_rfl) (by kernel_rfl) (by kernel_rfl) rfl (fun _ _ _ h => h) (Or.inl ⟨rfl, ?_⟩) H0 ?_
  rotate_left
  · intro W hW; have hW := HS.out W hW; go_simp; try with_reducible rfl
  simp only [put_list, List.set]
  refine Drawn.take 1 (some 10) (v := ?_) rfl rfl (by kernel_rfl) (by kernel_rfl) (by kernel_rfl) (by kernel_rfl) (by kernel_rfl) rfl (fun _ _ _ h => h) (Or.inl ⟨rfl, ?_⟩) H0 ?_
  rotate_left
  · intro W hW; have hW := HS.out W hW; go_simp; try with_reducible rfl
  simp only [put_list, List.set]
  refine Drawn.take 3 (some 12) (v := ?_) rfl rfl (by kernel_rfl) (by kernel_rfl) (by kernel_rfl) (by kernel_rfl) (by kernel_rfl) rfl (fun _ _ _ h => h) (Or.inl ⟨rfl, ?_⟩) H0 ?_
  rotate_left
  · intro W hW; have hW := HS.out W hW; go_simp; try with_reducible rfl
  simp only [put_list, List.set]
  refine Drawn.take 4 (some 13) (v := ?_) rfl rfl (by kernel_rfl) (by kernel_rfl) (by kernel_rfl) (by kernel_rfl) (by kernel_rfl) rfl (fun _ _ _ h => h) (Or.inl ⟨rfl, ?_⟩) H0 ?_
  rotate_left
  · intro W hW; have hW := HS.out W hW; go_simp; try with_reducible rfl
  simp only [put_list, List.set]
  refine Drawn.take 5 (some 14) (v := ?_) rfl rfl (by kernel_rfl) (by kernel_rfl) (by kernel_rfl) (by kernel_rfl) (by kernel_rfl) rfl (fun _ _ _ h => h) (Or.inl ⟨rfl, ?_⟩) H0 ?_
  rotate_left
  · intro W hW; have hW := HS.out W hW; go_simp; try with_reducible rfl
  simp only [put_list, List.set]
  refine Drawn.take 7 (some 16) (v := ?_) rfl rfl (by kernel_rfl) (by kernel_rfl) (by kernel_rfl) (by kernel_rfl) (by kernel_rfl) rfl (fun _ _ _ h => h) (Or.inl ⟨rfl, ?_⟩) H0 ?_
  rotate_left
  · intro W hW; have hW := HS.out W hW; go_simp; try with_reducible rfl
  simp only [put_list, List.set]
  refine Drawn.take 8 (some 17) (v := ?_) rfl rfl (by kernel_rfl) (by kernel_rfl) (by kernel_rfl) (by kernel_rfl) (by kernel_rfl) rfl (fun _ _ _ h => h) (Or.inl ⟨rfl, ?_⟩) H0 ?_
  rotate_left
  · intro W hW; have hW := HS.out W hW; go_simp; try with_reducible rfl
  simp only [put_list, List.set]
  refine Drawn.only 2 (by kernel_rfl) rfl rfl (fun K hK => ?_)
  go_simp
  refine (HC1.out _).mono ?_
  rintro e V2 ⟨rfl, hb⟩
  refine hK _ _ (fun _ _ => H0.call hb) ?_
  replace H0 := H0.call hb
  clear hK K hb
  try simp only [put_list, List.set]
  refine Drawn.only 6 (by kernel_rfl) rfl rfl (fun K hK => ?_)
  go_simp
  refine (HC2.out _).mono ?_
  rintro e V6 ⟨rfl, hb⟩
  refine hK _ _ (fun _ _ => H0.call hb) ?_
  replace H0 := H0.call hb
  clear hK K hb
  try simp only [put_list, List.set]
  refine Drawn.only 9 (by kernel_rfl) rfl rfl (fun K hK => ?_)
  go_simp
  refine (HC3.out _).mono ?_
  rintro e V9 ⟨rfl, hb⟩
  refine hK _ _ (fun _ _ => H0.call hb) ?_
  replace H0 := H0.call hb
  clear hK K hb
  try simp only [put_list, List.set]
  refine Drawn.only 10 (by kernel_rfl) rfl rfl (fun K hK => ?_)
  go_simp
  refine hK _ _ (fun _ _ => H0.call ((Below.refl _ _).alloc (Nat.le_refl _) _)) ?_
  clear hK K
  try simp only [put_list, List.set]
  have H1 : AskB w a (V9.alloc (.cells #[.bool false, .string (str (num a.id)), .slice none 0 0, .bool false, .string (str (num k64)), .slice none 0 0, .bool false, .string (str a.addr), .slice none 0 0] 198)) := H0.call ((Below.refl _ _).alloc (Nat.le_refl _) _)
  refine Drawn.take 11 (some 4) (v := ?_) rfl rfl (by kernel_rfl) (by kernel_rfl) (by kernel_rfl) (by kernel_rfl) (by kernel_rfl) rfl (fun _ _ _ h => h) (Or.inl ⟨rfl, ?_⟩) H1 ?_
  rotate_left
  · intro W hW; have hW := HS.out W hW; go_simp; try with_reducible rfl
  simp only [put_list, List.set]
  refine Drawn.done (by kernel_rfl) ?_ _
  have hown := own_lit V9 (.text (num a.id) (.text (num k64) (.text a.addr .nil))) #[.bool false, .string (str (num a.id)), .slice none 0 0, .bool false, .string (str (num k64)), .slice none 0 0, .bool false, .string (str a.addr), .slice none 0 0] (fo3_cel _ _ _ _) 3 rfl (by omega)
  have HB := Lib.hid (And.intro H1 hown)
  obtain ⟨c0, c1, c2, c3, c4, c5, c6⟩ := H1.cells
  have hq9 : w.heap.size ≤ V9.heap.size := H0.1.size
  have hB9 : V9.heap.size ≤ (V9.alloc (.cells #[.bool false, .string (str (num a.id)), .slice none 0 0, .bool false, .string (str (num k64)), .slice none 0 0, .bool false, .string (str a.addr), .slice none 0 0] 198)).heap.size := by simp
  clear H0 H1 HS HC1 HC2 HC3 K0 hown hz
  generalize V9.alloc (.cells #[.bool false, .string (str (num a.id)), .slice none 0 0, .bool false, .string (str (num k64)), .slice none 0 0, .bool false, .string (str a.addr), .slice none 0 0] 198) = U at *
  generalize V9.heap.size = q9 at *
  by_cases h1 : a.kind = 1
  · by_cases h0 : a.slot = 0
    · have hok : a.Ok := ⟨HW.out.1, Or.inr ⟨h1, h0⟩⟩
      have hk1 : k64 = 1 := by have h := HW.out.2.2.1; rw [h1] at h; have h2 : IntKind.u64.wrap 1 = 1 := by decide
                               omega
      have hfo : a.fo = .text (num a.id) (.text (num k64) (.text a.addr .nil)) := by unfold AskP.fo; rw [h1, hk1]; rfl
      have HE := Lib.hid (encoded_c (HB.out.2.sl) (fun k hk => hk.2) (by simp [Fo.siz]) (by rw [← hfo]; have := AskP.fo_len HW.out.2.1 hok; omega))
      rw [← hfo, show (3 : Nat) = 3 from rfl] at HE
      have HO := Lib.hid (putAskV_ok hok)
      have heq := fun W => eq_zero HW.out.2.1.slot W
      rw [show decide (a.slot = 0) = true by simp [h0]] at heq
      unfold wordV at heq
      have HF := Lib.hid (show str (It.list a.fo).enc = str a.enc from rfl)
      rw [HF.out] at HE
      rw [h1] at c6
      clear h0 hfo hk1 hk64 hok
      go_wp2_with (go_at_call 191; refine HE.out.mono ?_; rintro e w3 ⟨rfl, h3⟩; have H3 := Lib.hid h3; clear h3)
      go_ret2
      exact ⟨by rw [HO.out]; rfl, HB.out.1.1.trans (H3.out.mono HB.out.1.1.size)⟩
    · have hok : ¬ a.Ok := fun h => by rcases h.2 with h2 | h2; rw [h1] at h2; cases h2; exact h0 h2.2
      have HO := Lib.hid (putAskV_no hok)
      have heq := fun W => eq_zero HW.out.2.1.slot W
      rw [show decide (a.slot = 0) = false by simp [h0]] at heq
      unfold wordV at heq
      rw [h1] at c6
      clear h0 hk64 hok
      go_wp2_with fail
      go_ret2
      exact ⟨by rw [HO.out]; rfl, HB.out.1.1⟩
  · by_cases h2 : a.kind = 2
    · have hok : a.Ok := ⟨HW.out.1, Or.inl h2⟩
      have hk2 : k64 = 2 := by have h := HW.out.2.2.1; rw [h2] at h; have h3 : IntKind.u64.wrap 2 = 2 := by decide
                               omega
      have hfo : a.fo = (Fo.text (num a.id) (.text (num k64) (.text a.addr .nil))).app ((It.text (wordL a.slot)).fo .nil) := by unfold AskP.fo; rw [h2, hk2]; rfl
      have HE := Lib.hid (fun (S : Nat → Prop) v W (h : SlF S ((Fo.text (num a.id) (.text (num k64) (.text a.addr .nil))).app ((It.text (wordL a.slot)).fo .nil)) v W) (hS : ∀ k, S k → k < W.heap.size) => encoded_c h hS (by simp [Fo.siz, Fo.app, It.fo]) (by rw [← hfo]; have := AskP.fo_len HW.out.2.1 hok; omega))
      rw [← hfo] at HE
      have HO := Lib.hid (putAskV_ok hok)
      have HF := Lib.hid (show str (It.list a.fo).enc = str a.enc from rfl)
      rw [HF.out] at HE
      rw [h2] at c6
      have HX := Lib.hid hfo
      have HT := Lib.hid (fun W => wordText_c HW.out.2.1.slot W)
      unfold wordV textV at HT
      clear hfo hk2 hk64 hok
      go_wp2_with (first
        | (go_at_call 192; refine (HT.out _).mono ?_; rintro e w3 ⟨rfl, h3⟩; have hown3 := (HB.out.2.kept (fun k _ hk => h3.block k hk) h3.size).kept (fun k _ hk => Below.heap_alloc w3 (.cells #[.bool false, .string (str (wordL a.slot)), .slice none 0 0] 198) k hk) (by simp); have hz3 := heap_alloc_new w3 (.cells #[.bool false, .string (str (wordL a.slot)), .slice none 0 0] 198); have hbs3 : q9 ≤ (w3.alloc (.cells #[.bool false, .string (str (wordL a.slot)), .slice none 0 0] 198)).heap.size := (by have := h3.size; simp; omega); have hb3 := (HB.out.1.1.trans (h3.mono HB.out.1.1.size)).alloc (Nat.le_trans HB.out.1.1.size h3.size) (.cells #[.bool false, .string (str (wordL a.slot)), .slice none 0 0] 198); have H3 := Lib.hid (And.intro hown3 (And.intro hz3 hb3)); clear h3 hown3 hz3 hb3)
        | (at_builtin; refine wpList_append_item rfl _ _ rfl q9 (.slice (some ⟨q9, 0, none⟩) 3 3) _ (.text (wordL a.slot)) false (str (wordL a.slot)) (.slice none 0 0) (fun _ => False) (by rfl) H3.out.1 (fun _ h => h.elim) rfl ⟨[], rfl, rfl⟩ _ (by rfl) H3.out.2.1 hbs3 (by simp [Fo.len]) ?_; intro v4 W4 ho4 hg4 _; rw [← HX.out] at ho4; have hsl4 := ho4.sl; obtain ⟨a4, m4, n4, rfl⟩ := hsl4.form; have hbl : Below w.heap.size w W4 := H3.out.2.2.grown hg4 H3.out.2.2.size (fun j hj => (by have := (H3.out.1.blk j hj).1; omega)); have H4 := Lib.hid (And.intro hsl4 hbl); clear ho4 hg4 hsl4 hbl)
        | (go_at_call 191; refine (HE.out _ _ _ H4.out.1 (fun k hk => hk.2)).mono ?_; rintro e w5 ⟨rfl, h5⟩; have H5 := Lib.hid h5; clear h5))
      go_ret2
      exact ⟨by rw [HO.out]; rfl, H4.out.2.trans (H5.out.mono H4.out.2.size)⟩
    · have hok : ¬ a.Ok := fun h => by rcases h.2 with h3 | h3; exact h2 h3; exact h1 h3.1
      have HO := Lib.hid (putAskV_no hok)
      have hb1 : (a.kind == 1) = false := by simp [h1]
      have hb2 : (a.kind == 2) = false := by simp [h2]
      clear hk64 hok
      go_wp2_with fail
      go_ret2
      exact ⟨by rw [HO.out]; rfl, HB.out.1.1⟩
end Go.Proofs.YtekoaheiapddiaaGreat
end
section
namespace Go.Proofs.YtekoaheiapddiaaGreat
open Go.RowKit

theorem conv4 (W : World) (a b c d : Nat) (ha : a < 256) (hb : b < 256) (hc : c < 256) (hd : d < 256) : (convert 218 9 (.slice (some ⟨W.heap.size, 0, none⟩) 4 4)).run Tryz.prog (W.alloc (.cells #[.int .u8 (a : Nat), .int .u8 (b : Nat), .int .u8 (c : Nat), .int .u8 (d : Nat)] 5)) =
    .ok (.string (str [UInt8.ofNat a, UInt8.ofNat b, UInt8.ofNat c, UInt8.ofNat d])) (W.alloc (.cells #[.int .u8 (a : Nat), .int .u8 (b : Nat), .int .u8 (c : Nat), .int .u8 (d : Nat)] 5)) := by
  have h := run_convert_bytes_back (P := Tryz.prog) (W.alloc (.cells #[.int .u8 (a : Nat), .int .u8 (b : Nat), .int .u8 (c : Nat), .int .u8 (d : Nat)] 5)) 218 9 5 ⟨W.heap.size, 0, none⟩ 4 [UInt8.ofNat a, UInt8.ofNat b, UInt8.ofNat c, UInt8.ofNat d] Tryz.underlying218 Tryz.underlying5 Tryz.underlying9 (fun j hj => by
    have e : (⟨W.heap.size, 0, none⟩ : Addr).add j = ⟨W.heap.size, j, none⟩ := by unfold Addr.add; split <;> simp_all
    rw [e, cell_of (heap_alloc_new _ _)]
    match j, hj with
    | 0, _ => simp [UInt8.toNat_ofNat_of_lt' ha]
    | 1, _ => simp [UInt8.toNat_ofNat_of_lt' hb]
    | 2, _ => simp [UInt8.toNat_ofNat_of_lt' hc]
    | 3, _ => simp [UInt8.toNat_ofNat_of_lt' hd])
  exact h
theorem ofNat_mod (n : Nat) : UInt8.ofNat (n % 256) = UInt8.ofNat n := UInt8.toNat_inj.1 (by rw [UInt8.toNat_ofNat', UInt8.toNat_ofNat']; omega)
theorem conv_be4 (n : Nat) (hn : n < 4294967296) (W : World) : (convert 218 9 (.slice (some ⟨W.heap.size, 0, none⟩) 4 4)).run Tryz.prog (W.alloc (.cells #[.int .u8 ((n : Int) / 16777216), .int .u8 ((n : Int) / 65536 % 256), .int .u8 ((n : Int) / 256 % 256), .int .u8 ((n : Int) % 256)] 5)) =
    .ok (.string (str (be4 n))) (W.alloc (.cells #[.int .u8 ((n : Int) / 16777216), .int .u8 ((n : Int) / 65536 % 256), .int .u8 ((n : Int) / 256 % 256), .int .u8 ((n : Int) % 256)] 5)) := by
  have h := conv4 W (n / 16777216) (n / 65536 % 256) (n / 256 % 256) (n % 256) (by omega) (by omega) (by omega) (by omega)
  simp only [ofNat_mod] at h
  exact h
set_option maxRecDepth 100000 in

theorem sumN_lt4 (s : List UInt8) : sumN (str s) < 4294967296 := sumN_lt _
set_option maxRecDepth 100000 in
theorem summed_c (s : List UInt8) (hs : s.length ≤ 100000) (w : World) : Calls Tryz.prog 194 #[.string (str s)] w fun e w' => e = .returned (.string (str (sum4 s ++ s))) ∧ Below w.heap.size w w' := by
  have hsz := str_size s
  have C := Lib.hid (fun W => sum_c (s := str s) (by rw [str_size]; unfold maxLen; omega) W)
  have hc := conv_be4 (sumN (str s)) (sumN_lt4 s)
  have hF : str (be4 (sumN (str s))) ++ str s = str (sum4 s ++ s) := str_append _ _
  have hz4 : (str (be4 (sumN (str s)))).size = 4 := by rw [str_size]; rfl
  have HR := Lib.hid hF
  have hn := sumN_lt4 s
  generalize str (sum4 s ++ s) = z at *
  generalize sumN (str s) = n at *
  generalize str (be4 n) = y at *
  generalize str s = x at *
  have hbig : ¬ 9223372036854775807 < y.size + x.size := by omega
  clear hF
  go_enter Tryz.func194, Tryz.ntmps194
  go_wp2_with (go_at_call 229; refine (C.out _).mono ?_; rintro e w1 ⟨rfl, h1⟩; have H1 := Lib.hid h1; clear h1)
  go_ret
  exact ⟨by rw [← HR.out]; rfl, H1.out.alloc H1.out.size _⟩
end Go.Proofs.YtekoaheiapddiaaGreat
end
