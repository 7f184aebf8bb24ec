/- A family of codes; a row. -/
import Derived.Test.YtfcmcccfclaefaaDoorUc
import Derived.Laws.EntriesVeiled
namespace Go.Proofs.YtfcmcccfclaefaaDoor
open Go.RowKit Go.Maps Mp

set_option maxRecDepth 100000 in
set_option maxHeartbeats 4000000 in
theorem push_c {n f b : Nat} (hn : n < 16) (hf : 95 < f) (hf2 : f < 113) (W : World) (hb : W.heap[b]? = some (.cells #[.int .u8 (f : Nat)] 5 (0, 0))) : Calls Tryd.prog 33 #[.int .i64 (n : Nat), .pointer (some ⟨b, 0, none⟩)] W fun e W' => e = .returned (.agg (infC (iPush (f - 95 + n)))) ∧ Below W.heap.size W W' := by
  have C := Lib.hid (fun V => itoa_c (n := f - 95 + n) (by omega) V)
  have hz : (str (dec (f - 95 + n))).size ≤ 2 := dec_size _
  have hs : ({ data := #[80, 85, 83, 72] } : ByteArray) ++ str (dec (f - 95 + n)) = str ([80, 85, 83, 72] ++ dec (f - 95 + n)) := str_app _ _
  generalize str (dec (f - 95 + n)) = s1 at C hs hz
  generalize hS : str ([80, 85, 83, 72] ++ dec (f - 95 + n)) = s2 at hs
  have HS := Lib.hid hS
  rw [show ((f - 95 + n : Nat) : Int) = (f : Int) - 95 + (n : Int) from by omega] at C
  have k0 := cell_of hb 0
  have HB := Lib.hid (lt_of hb)
  simp only [List.getElem?_toArray, List.getElem?_cons_zero] at k0
  clear hS hb
  go_enter Tryd.func33, Tryd.ntmps33
  have e0 := Lib.hid (Below.heap_alloc W (.cells #[.string ⟨#[]⟩, .int .u64 0, .int .i64 0, .int .i64 0] 25 (0, 0)) b HB.out)
  have k1 := World.cell?_of_block (a := ⟨b, 0, none⟩) e0.out
  rw [k0] at k1
  go_wp2_with (go_at_call 34; refine (C.out _).mono ?_; rintro e w1 ⟨rfl, rfl⟩)
  have hb := heap_alloc_new W (.cells #[.string s2, .int .u64 3, .int .i64 0, .int .i64 1] 25 (0, 0))
  refine bodyPost_ret (results_cell_row Tryd.results33 _ _ _ _ _ _ _ rfl hb Tryd.underlying25 rfl (by kernel_rfl)) rfl ⟨?_, (Below.refl _ W).alloc (Nat.le_refl _) _⟩
  rw [← HS.out]
  rfl
def fam (first many : Nat) (g : Nat → Inf) : List (Nat × Inf) := (List.range many).reverse.map fun i => (first + i, g i)
theorem fam_succ (first i : Nat) (g : Nat → Inf) : fam first (i + 1) g = (first + i, g i) :: fam first i g := by
  simp [fam, List.range_succ]
theorem run_makeMap_hint (t k e : TypeId) (ht : Tryd.prog.underlying t = some (.map k e)) (q : IntKind) (n : Int) (w : World) : (Instr.makeMap t (some (.int q n))).run Tryd.prog w = .ok (.map (some w.heap.size)) (w.alloc (.map #[] 0)) := by
  simp [Instr.makeMap, run_underlying ht, asInt, asIntOf, Result.andThen]
theorem Mt.below_call {W V V' : World} {m n : Nat} {f : Nat → Option Inf} (h : Mt W m n f V) (hb : Below V.heap.size V V') : Mt W m n f V' :=
  ⟨h.below.trans (hb.mono h.below.size), h.new, h.map.keep (hb.block m h.map.lt)⟩
set_option maxRecDepth 100000 in
set_option maxHeartbeats 4000000 in
theorem family_c {first many : Nat} (hf : first + many ≤ 256) (g : Nat → Inf) (fn : FuncId) (ca : Array Value) (W : World) (hen : ∀ args w, (callFunc fn args).run Tryd.prog w = .ok (.enter fn args) w)
    (hc : ∀ i, i < many → ∀ V, Below W.heap.size W V → Calls Tryd.prog fn (#[.int .i64 (i : Nat)] ++ ca) V fun e V' => e = .returned (.agg (infC (g i))) ∧ Below V.heap.size V V') :
    Calls Tryd.prog 32 #[.int .u8 (first : Nat), .int .i64 (many : Nat), .func (.func fn) #[] ca] W fun e W' => ∃ m, e = .returned (.map (some m)) ∧ Mt W m many (tab (fam first many g)) W' := by
  have H := Lib.hid (Mt.made W)
  have hmm := fun q n => run_makeMap_hint 48 _ _ Tryd.underlying48 q n
  have HC := Lib.hid (And.intro hc hf)
  clear hc hf
  go_enter Tryd.func32, Tryd.ntmps32
  go_wp2_with fail
  go_loopw [12] (fun iv wr => ∃ i : Nat, i ≤ many ∧ iv = .int .i64 (i : Nat) ∧ Mt W W.heap.size i (tab (fam first i g)) wr) (fun iv _ => many - (intOf iv).toNat)
  case atStart => exact ⟨0, Nat.zero_le _, rfl, H.out⟩
  case round =>
    obtain ⟨i, hi, rfl, h⟩ := hrel
    by_cases hlt : i < many
    · have hfu := HC.out.2
      have hlt2 : (i : Int) < (many : Int) := by omega
      have C := Lib.hid (HC.out.1 i hlt wr h.below)
      have HX := Lib.hid h
      clear h
      go_wp2_with fail
      refine C.out.mono ?_
      rintro e V1 ⟨rfl, hb⟩
      obtain ⟨ob, HP, h2⟩ := (HX.out.below_call hb).put (k := first + i) (by omega) (by omega) (g i)
      rw [tab_put, ← fam_succ] at h2
      rw [show ((first + i : Nat) : Int) = (first : Int) + (i : Int) from by omega] at HP
      have H2 := Lib.hid h2
      clear h2 hb
      generalize infC (g i) = cs at HP ⊢
      generalize ChangeMaps.setBlock V1 _ ob = V2 at HP H2
      go_wp2_with fail
      go_roundw
      case rel => exact ⟨i + 1, by omega, by go_num, H2.out⟩
      case measure => simp [intOf]; omega
    · obtain rfl : i = many := by omega
      have HX := Lib.hid h
      clear h hi
      go_wp2_with fail
      go_ret
      exact ⟨_, rfl, HX.out⟩
end Go.Proofs.YtfcmcccfclaefaaDoor
