/- All rows in one map. -/
import Derived.Test.YtfcmcccfclaefaaDoorUe
namespace Go.Proofs.YtfcmcccfclaefaaDoor
open Go.RowKit Go.Maps Go.Shelf Mp

theorem chg_grown {F : Nat → Prop} {W V : World} {row : Option Nat} (h : W.grownBy V row) (hF : ∀ k, row = some k → F k) : Chg F F W V :=
  ⟨h.os, h.tape, h.output, h.size, fun k hk hn => h.block k hk fun e => hn (hF k e.symm), fun _ hk => Or.inl hk⟩
theorem range_none (W : World) : (Instr.range 48 (.map none)).run Tryd.prog W = .ok (.pointer (some ⟨W.heap.size, 0, none⟩)) (W.alloc (.mapIter none 0 #[] 0)) := by
  simp [Instr.range, run_underlying Tryd.underlying48, go_sem]
theorem next_none {r : Nat} {W : World} (h : W.heap[r]? = some (.mapIter none 0 #[] 0)) (ty : TypeId) : (Instr.next (.pointer (some ⟨r, 0, none⟩)) false ty).run Tryd.prog W = .ok (.tuple #[.bool false]) W := by
  simp [Instr.next, Sem.run_bind, getObj, h, Result.andThen, Sem.run]
theorem wpList_next_tab (W : World) {m r n cnt : Nat} {f : Nat → Option Inf} {ops : Array Oper} {rest : List Oper} {o : Oper} {a : Act} {Q : Exit → Act → World → Prop} (hg : o.guard = none) (it : Operand) (hop : o.op = Op.next it false) (hit : a.eval it = .pointer (some ⟨r, 0, none⟩)) {todo : Nat → Bool} (h : MapRg kitB m r n f todo cnt W)
    (hDone : cnt = 0 → (∀ k, k < 256 → todo k = false) → wpList Tryd.prog ops Q rest (a.put o.dst (.tuple #[.bool false])) W)
    (hMore : ∀ (k : Nat) (v : Inf) (W' : World) (cnt' : Nat), k < 256 → todo k = true → f k = some v → MapRg kitB m r n f (fun j => todo j && !decide (j = k)) cnt' W' → cnt' < cnt → W.grownBy W' (some r) → W'.heap.size = W.heap.size →
      (Instr.entry (.pointer (some ⟨r, 0, none⟩))).run Tryd.prog W' = .ok (.tuple #[.int .u8 (k : Nat), .agg (infC v)]) W' → wpList Tryd.prog ops Q rest (a.put o.dst (.tuple #[.bool true, .int .u8 (k : Nat), .agg (infC v)])) W') :
    wpList Tryd.prog ops Q (o :: rest) a W := wpList_next_fn W hg it hop hit h hDone hMore
theorem wpList_update_fn {V : World} {m n : Nat} {g : Nat → Option Inf} {ops : Array Oper} {rest : List Oper} {o : Oper} {a : Act} {Q : Exit → Act → World → Prop} (h : MapFn kitB m n g V) (hg : o.guard = none) (mo ko vo : Operand) (hop : o.op = Op.mapUpdate 48 mo ko vo)
    (hm : a.eval mo = .map (some m)) {k : Nat} (hk : a.eval ko = .int .u8 (k : Nat)) {v : Inf} (hv : a.eval vo = .agg (infC v)) (hk0 : k < 256) (hn : n < 1000000) (hd : o.dst = none)
    (hK : ∀ ob, MapFn kitB m (n + 1) (upf g k (some v)) (ChangeMaps.setBlock V m ob) → wpList Tryd.prog ops Q rest a (ChangeMaps.setBlock V m ob)) :
    wpList Tryd.prog ops Q (o :: rest) a V := by
  obtain ⟨ob, hrun, h2⟩ := h.put (k := k) (by unfold maxLen; omega) hk0 v
  have hrun2 : (Instr.mapUpdate 48 (.map (some m)) (.int .u8 (k : Nat)) (.agg (infC v))).run Tryd.prog V = .ok () (ChangeMaps.setBlock V m ob) := hrun
  refine wpList_plain hg fun K' hK' => ?_
  unfold Oper.wp
  simp [execOp, hop, hm, hk, hv, hrun2, Result.andThen]
  have e : a.put o.dst undef = a := by rw [hd]; rfl
  exact hK' _ _ (by rw [e]; exact hK _ h2)
/-- The first, or else the second. -/
def orF (f g : Nat → Option Inf) : Nat → Option Inf := fun k => (f k).or (g k)
/-- Copy, under way: what is still to come is as it was. -/
def midF (todo : Nat → Bool) (f g : Nat → Option Inf) : Nat → Option Inf := fun k => if todo k then g k else (f k).or (g k)
structure Cp (m s r n : Nat) (f g : Nat → Option Inf) (V : World) (todo : Nat → Bool) (cnt : Nat) (U : World) : Prop where
  rg : MapRg kitB s r 16 f todo cnt U
  mp : ∃ n', n' + cnt ≤ n + 16 ∧ MapFn kitB m n' (midF todo f g) U
  chg : Chg (fun k => k = m) (fun k => k = m) V U
  nr : V.heap.size ≤ r
def CpR (m n : Nat) (f g : Nat → Option Inf) (V : World) (e : Ending) (U : World) : Prop :=
  e = .returned (.tuple #[]) ∧ MapFn kitB m (n + 16) (orF f g) U ∧ Chg (fun k => k = m) (fun k => k = m) V U
theorem midF_done {f g : Nat → Option Inf} {todo : Nat → Bool} (h : ∀ k, k < 256 → todo k = false) (hf : ∀ k, ¬ k < 256 → f k = none) (hg : ∀ k, ¬ k < 256 → g k = none) : midF todo f g = orF f g := by
  funext k
  unfold midF orF
  by_cases hk : k < 256
  · simp [h k hk]
  · simp [hf k hk, hg k hk]
theorem midF_step {f g : Nat → Option Inf} {todo : Nat → Bool} {k : Nat} {v : Inf} (ht : todo k = true) (hv : f k = some v) : upf (midF todo f g) k (some v) = midF (fun j => todo j && !decide (j = k)) f g := by
  funext j
  by_cases e : j = k
  · subst e
    rw [upf_same]
    unfold midF
    simp [hv]
  · rw [upf_other _ _ e]
    unfold midF
    simp [e]
theorem mapFn_off {m n : Nat} {f : Nat → Option Inf} {V : World} (h : MapFn kitB m n f V) : ∀ k, ¬ k < 256 → f k = none := by
  obtain ⟨D, _, h2⟩ := h
  exact h2.off
set_option maxRecDepth 100000 in
set_option maxHeartbeats 4000000 in
theorem copy_some {m s n : Nat} {f g : Nat → Option Inf} {V : World} (hn : n < 100000) (hm : MapFn kitB m n g V) (hs : MapFn kitB s 16 f V) (hne : s ≠ m) :
    Calls Tryd.prog 41 #[.map (some m), .map (some s)] V (CpR m n f g V) := by
  have HM := Lib.hid (And.intro hm (And.intro hs (And.intro hne hn)))
  clear hm hs hne hn
  go_enter Tryd.func41, Tryd.ntmps41
  go_wp2_with (refine wpList_range_fn _ (by rfl) _ (by rfl) (by rfl) HM.out.2.1 ?_; intro V1 cnt h1 h2 h3 h4; have H1 := Lib.hid (And.intro h1 (And.intro h2 (And.intro h3 h4))); clear h1 h2 h3 h4)
  have HL : Cp m s V.heap.size n f g V (fun k => (f k).isSome) cnt V1 := by
    obtain ⟨h1, h2, h3, h4⟩ := H1.out
    obtain ⟨hm, hs, hne, hn⟩ := HM.out
    refine ⟨h1, ⟨n, by omega, ?_⟩, chg_grown h2 (fun k hk => by cases hk), Nat.le_refl _⟩
    have e : midF (fun k => (f k).isSome) f g = g := by
      funext k
      unfold midF
      cases hf : f k with
      | none => simp [hf]
      | some v => simp [hf]
    rw [e]
    exact hm.keep (h2.block m hm.lt (by simp))
  have HL2 := Lib.hid HL
  clear HL H1
  generalize V.heap.size = r at HL2 ⊢
  go_frame
  go_loopw [] (fun wr => ∃ todo cnt, Cp m s r n f g V todo cnt wr) (fun wr => wr.rangeLeft s r)
  case atStart => exact ⟨_, _, HL2.out⟩
  case round =>
    obtain ⟨todo, cnt, hi⟩ := hrel
    have HI := Lib.hid hi
    clear hi HL2
    go_wp2_with (refine wpList_next_tab _ (by rfl) _ (by rfl) (by rfl) HI.out.rg ?_ ?_)
    · intro hc0 hl0
      have HZ := Lib.hid (And.intro hc0 hl0)
      clear hc0 hl0
      go_wp2_with fail
      go_end0
      obtain ⟨n', h1, h2⟩ := HI.out.mp
      rw [midF_done HZ.out.2 (mapFn_off HM.out.2.1) (mapFn_off HM.out.1)] at h2
      exact ⟨rfl, h2.mono (by omega), HI.out.chg⟩
    · intro k v W3 cnt3 hk ht hv hrg hlt hg3 hsz hen
      have HK := Lib.hid (And.intro hk (And.intro ht (And.intro hv (And.intro hrg (And.intro hlt (And.intro hg3 hsz))))))
      clear hk ht hv hrg hlt hg3 hsz
      unfold infC at hen ⊢
      obtain ⟨n', hn', h2⟩ := HI.out.mp
      have hne := MapRg.ne HI.out.rg
      have hb3 : Below W3.heap.size W3 (W3.alloc (.cells #[.string (str v.nm), .int .u64 v.gas, .int .i64 v.inn, .int .i64 v.out] 25)) := (Below.refl _ _).alloc (Nat.le_refl _) _
      have hm2 : m < wr.heap.size := h2.lt
      have h3 := Lib.hid ((h2.keep (HK.out.2.2.2.2.2.1.block m hm2 (fun e => by injection e with e; have := HI.out.nr; have := HM.out.1.lt; omega))).keep (hb3.block m (by rw [HK.out.2.2.2.2.2.2]; exact hm2)))
      have HN := Lib.hid (And.intro hn' (And.intro hb3 (And.intro hm2 hne)))
      clear hn' hb3 hm2 hne h2
      go_wp2_with (refine wpList_update_fn (v := v) h3.out (by rfl) _ _ _ (by rfl) (by rfl) (by rfl) (by rfl) HK.out.1 (by have := HN.out.1; have := HM.out.2.2.2; omega) (by rfl) ?_; intro ob h9; have H9 := Lib.hid h9; clear h9)
      have HC : Cp m s r n f g V (fun j => todo j && !decide (j = k)) cnt3 (ChangeMaps.setBlock (W3.alloc (.cells #[.string (str v.nm), .int .u64 v.gas, .int .i64 v.inn, .int .i64 v.out] 25)) m ob) := by
        obtain ⟨hk, ht, hv, hrg, hlt, hg3, hsz⟩ := HK.out
        obtain ⟨hn', hb3, hm2, hne⟩ := HN.out
        have hr3 : r < W3.heap.size := hrg.lt
        have hs3 : s < W3.heap.size := (MapRg.fn ⟨_, hrg⟩).lt
        have hrm : r ≠ m := by have := HI.out.nr; have := HM.out.1.lt; omega
        refine ⟨hrg.keep ((setBlock_other HM.out.2.2.1).trans (hb3.block s hs3)) ((setBlock_other hrm).trans (hb3.block r hr3)), ⟨n' + 1, by omega, ?_⟩, ?_, HI.out.nr⟩
        · have h9 := H9.out
          rw [midF_step ht hv] at h9
          exact h9
        · have hc := HI.out.chg
          refine ⟨hg3.os.trans hc.os, hg3.tape.trans hc.tape, hg3.output.trans hc.output, ?_, ?_, fun _ h => Or.inl h⟩
          · rw [setBlock_size, alloc_size]; have := hc.size; omega
          · intro j hj hjm
            have hj2 := hc.size
            have hnr := HI.out.nr
            exact (setBlock_other hjm).trans ((hb3.block j (by omega)).trans ((hg3.block j (by omega) (fun e => by injection e with e; omega)).trans (hc.block j hj hjm)))
      have HC2 := Lib.hid HC
      have HM2 := HK.out.2.2.2.2.1
      clear HC H9 HN HK h3 hen
      generalize ChangeMaps.setBlock _ m ob = W4 at HC2
      go_roundw
      case rel => exact ⟨_, _, HC2.out⟩
      case measure => rw [MapRg.left_eq HC2.out.rg, MapRg.left_eq HI.out.rg]; exact HM2
set_option maxRecDepth 100000 in
set_option maxHeartbeats 4000000 in
theorem copy_none {m n : Nat} {g : Nat → Option Inf} {V : World} (hm : MapFn kitB m n g V) :
    Calls Tryd.prog 41 #[.map (some m), .map none] V (CpR m n (fun _ => none) g V) := by
  have hrn := range_none V
  have hnn := fun ty => next_none (heap_alloc_new V (.mapIter none 0 #[] 0)) ty
  have hb : Below V.heap.size V (V.alloc (.mapIter none 0 #[] 0)) := (Below.refl _ _).alloc (Nat.le_refl _) _
  have HM := Lib.hid (And.intro hm hb)
  clear hm hb
  go_enter Tryd.func41, Tryd.ntmps41
  go_wp2_with fail
  generalize hW : World.alloc V _ = V1 at hnn HM ⊢
  clear hW
  go_loopw [] (fun wr => wr = V1) (fun _ => 0)
  case atStart => rfl
  case round =>
    subst hrel
    go_wp2_with fail
    go_end0
    have hm2 := HM.out.1.keep (HM.out.2.block m HM.out.1.lt)
    have e : orF (fun _ => none) g = g := by funext k; simp [orF]
    rw [← e] at hm2
    exact ⟨rfl, hm2.mono (by omega), Chg.of_below HM.out.2⟩
def infoOf (k : Nat) : Option Inf := tab (rowL (k / 16)) k
theorem rowL_keys (h : Nat) : ∀ p ∈ rowL h, p.1 / 16 = h := by
  by_cases hh : h < 16
  · have all : (List.range 16).all (fun h => (rowL h).all (fun p => decide (p.1 / 16 = h))) = true := by decide +kernel
    have h1 := List.all_eq_true.1 all h (List.mem_range.2 hh)
    intro p hp
    exact of_decide_eq_true (List.all_eq_true.1 h1 p hp)
  · obtain ⟨j, rfl⟩ : ∃ j, h = j + 16 := ⟨h - 16, by omega⟩
    intro p hp
    cases hp
theorem tab_rowL {h k : Nat} (hk : k / 16 ≠ h) : tab (rowL h) k = none := tab_none fun p hp e => hk (by rw [← e]; exact rowL_keys h p hp)
def allF (i : Nat) : Nat → Option Inf := fun k => if k < 16 * i then infoOf k else none
theorem allF_succ (i : Nat) : orF (tab (rowL i)) (allF i) = allF (i + 1) := by
  funext k
  unfold orF allF
  by_cases e : k / 16 = i
  · rw [if_neg (by omega), if_pos (by omega)]
    unfold infoOf
    rw [e]
    cases tab (rowL i) k <;> rfl
  · rw [tab_rowL e]
    by_cases h : k < 16 * i
    · rw [if_pos h, if_pos (by omega)]; rfl
    · rw [if_neg h, if_neg (by omega)]; rfl
theorem infoOf_high {k : Nat} (h : ¬ k < 256) : infoOf k = none := by
  unfold infoOf
  obtain ⟨j, e⟩ : ∃ j, k / 16 = j + 16 := ⟨k / 16 - 16, by omega⟩
  rw [e]
  rfl
theorem allF_whole : allF 16 = infoOf := by
  funext k
  unfold allF
  by_cases h : k < 16 * 16
  · rw [if_pos h]
  · rw [if_neg h, infoOf_high h]
set_option maxRecDepth 100000 in
set_option maxHeartbeats 4000000 in
theorem all_c (W : World) : Calls Tryd.prog 21 #[] W fun e W' => ∃ m, e = .returned (.map (some m)) ∧ Mt W m 256 infoOf W' := by
  have H := Lib.hid (Mt.made W)
  have hmm := @run_makeMap Tryd.prog
  go_enter Tryd.func21, Tryd.ntmps21
  go_wp2_with fail
  go_loopw [4] (fun iv wr => ∃ i : Nat, i ≤ 16 ∧ iv = .int .i64 (i : Nat) ∧ Mt W W.heap.size (16 * i) (allF i) wr) (fun iv _ => 16 - (intOf iv).toNat)
  case atStart =>
    refine ⟨0, Nat.zero_le _, rfl, ?_⟩
    have e : allF 0 = tab [] := by funext k; unfold allF; rw [if_neg (by omega)]; rfl
    rw [e]
    exact H.out
  case round =>
    obtain ⟨i, hi, rfl, h⟩ := hrel
    have HX := Lib.hid h
    clear h
    by_cases hlt : i < 16
    · have hlt2 : (i : Int) < 16 := by omega
      have C := Lib.hid (row_c hlt wr)
      go_wp2_with fail
      refine C.out.mono ?_
      rintro e V1 ⟨mb, rfl, hb, hr⟩
      have hm1 := (HX.out.below_call hb).map
      have C2 : Calls Tryd.prog 41 #[.map (some W.heap.size), .map mb] V1 (CpR W.heap.size (16 * i) (tab (rowL i)) (allF i) V1) := by
        rcases hr with ⟨rfl, hr⟩ | ⟨s, rfl, hs, hr⟩
        · rw [hr]; exact copy_none hm1
        · exact copy_some (by omega) hm1 hr (by have := HX.out.map.lt; omega)
      have HC := Lib.hid (And.intro C2 hb)
      clear C2 hm1 hr hb C
      go_wp2_with fail
      refine HC.out.1.mono ?_
      rintro e V2 ⟨rfl, h2, h3⟩
      rw [allF_succ] at h2
      have HZ : Mt W W.heap.size (16 * (i + 1)) (allF (i + 1)) V2 := by
        have hb1 := (HX.out.below_call HC.out.2).below
        refine ⟨⟨h3.os.trans hb1.os, h3.tape.trans hb1.tape, h3.output.trans hb1.output, Nat.le_trans hb1.size h3.size, fun k hk => (h3.block k (Nat.lt_of_lt_of_le hk hb1.size) (by omega)).trans (hb1.block k hk)⟩, Nat.le_refl _, h2.mono (by omega)⟩
      have HZ2 := Lib.hid HZ
      clear HZ h2 h3 HC
      go_wp2_with fail
      go_roundw
      case rel => exact ⟨i + 1, by omega, by go_num, HZ2.out⟩
      case measure => simp [intOf]; omega
    · obtain rfl : i = 16 := by omega
      rw [allF_whole] at HX
      go_wp2_with fail
      go_ret
      exact ⟨_, rfl, HX.out⟩
end Go.Proofs.YtfcmcccfclaefaaDoor
