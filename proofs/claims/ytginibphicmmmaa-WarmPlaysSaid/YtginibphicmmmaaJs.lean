/- A log with its topics copied. -/
import Derived.Test.YtginibphicmmmaaJp
import Derived.Laws.AppendOwnNone
import Derived.Deep.CutRange
namespace Go.Proofs.Ytginibphicmmmaa
open Go.RowKit Go.Maps Go.Shelf Mp

theorem infoWord : (Try.prog.info? 46).map (fun i => (i.zero, i.size, i.bytes)) = some (some (.agg #[.int .u64 0, .int .u64 0, .int .u64 0, .int .u64 0]), 4, 32) := by kernel_rfl
def wordsC (ws : List Wq) : List Value := (ws.map Wq.cells).flatten
theorem wordsC_len : ∀ (ws : List Wq), (wordsC ws).length = ws.length * 4
  | [] => rfl
  | w :: ws => by
    have := wordsC_len ws
    unfold wordsC at this ⊢
    simp only [List.map_cons, List.flatten_cons, List.length_append, this, Wq.cells, List.length_cons, List.length_nil]
    omega
theorem wordsC_one : ∀ (ws : List Wq), ∀ u ∈ wordsC ws, u.oneCell' = true
  | [], _, h => by cases h
  | w :: ws, u, h => by
    unfold wordsC at h
    simp only [List.map_cons, List.flatten_cons, List.mem_append] at h
    rcases h with h | h
    · simp [Wq.cells] at h
      rcases h with rfl | rfl | rfl | rfl <;> rfl
    · exact wordsC_one ws u h
theorem wordsC_at : ∀ (ws : List Wq) (i : Nat) (k : Wq), ws[i]? = some k → ∀ j, j < 4 → (wordsC ws)[i * 4 + j]? = (k.cells)[j]?
  | [], _, _, h, _, _ => by simp at h
  | w :: ws, 0, k, h, j, hj => by
    simp at h
    subst h
    unfold wordsC
    simp only [List.map_cons, List.flatten_cons]
    rw [List.getElem?_append_left (by simp [Wq.cells]; omega)]
    simp
  | w :: ws, i + 1, k, h, j, hj => by
    have := wordsC_at ws i k (by simpa using h) j hj
    unfold wordsC at this ⊢
    simp only [List.map_cons, List.flatten_cons]
    rw [List.getElem?_append_right (by simp [Wq.cells]; omega), ← this]
    congr 1
    simp [Wq.cells]
    omega
/-- Words that lie in a slice, wherever. -/
def WordsAt (V : World) (tv : Value) (ws : List Wq) : Prop :=
  ∃ pa c, tv = .slice pa ws.length c ∧ (pa = none → ws = [] ∧ c = 0) ∧ ∀ ad, pa = some ad → (ws ≠ [] → ad.block < V.heap.size) ∧ ∀ j u, (wordsC ws)[j]? = some u → V.cell? (ad.add j) = some u
theorem add_block (ad : Addr) (j : Nat) : (ad.add j).block = ad.block := by unfold Addr.add; split <;> rfl
theorem WordsAt.kept {V V' : World} {tv : Value} {ws : List Wq} (h : WordsAt V tv ws) (hs : V.heap.size ≤ V'.heap.size) (hk : ws ≠ [] → ∀ k, tv.ownBlock = some k → V'.heap[k]? = V.heap[k]?) : WordsAt V' tv ws := by
  obtain ⟨pa, c, rfl, h1, h2⟩ := h
  refine ⟨pa, c, rfl, h1, fun ad had => ?_⟩
  subst had
  obtain ⟨h3, h4⟩ := h2 ad rfl
  refine ⟨fun hn => Nat.lt_of_lt_of_le (h3 hn) hs, fun j u hj => ?_⟩
  have hn : ws ≠ [] := fun e => by rw [e] at hj; simp [wordsC] at hj
  rw [World.cell?_of_block (w := V) (by rw [add_block]; exact hk hn _ rfl)]
  exact h4 j u hj
theorem WordsAt.below {V V' : World} {tv : Value} {ws : List Wq} (h : WordsAt V tv ws) (hb : Below V.heap.size V V') : WordsAt V' tv ws :=
  h.kept hb.size fun hn k hk => by
    obtain ⟨pa, c, rfl, _, h2⟩ := h
    cases pa with
    | none => cases hk
    | some ad => cases hk; exact hb.block _ ((h2 ad rfl).1 hn)
def logV (l : LogP) (tv : Value) : Value := .agg #[.string (str l.addr), tv, .string (str l.data)]
theorem grown_below {W V : World} {B : Nat} (h : W.grownBy V none) (hB : B ≤ W.heap.size) : Below B W V := ⟨h.os, h.tape, h.output, h.size, fun k hk => h.block k (by omega) (by simp)⟩
theorem copied_fin {l : LogP} {t' : Value} {W V : World} {n : Nat} {xs : List Value} (g1 : V.heap[W.heap.size + 1]? = some (.cells #[.string ⟨#[]⟩, .slice none 0 0, .string ⟨#[]⟩] 33 (0, 0))) (hb : Below W.heap.size W V)
    (hr : V.ownsRow (W.heap.size + 2) 46 4 t' n xs) : ((((V.setCell ⟨W.heap.size, 1, none⟩ t').setCell ⟨W.heap.size + 1, 0, none⟩ (.string (str l.addr))).setCell ⟨W.heap.size + 1, 1, none⟩ t').setCell ⟨W.heap.size + 1, 2, none⟩ (.string (str l.data))).heap[W.heap.size + 1]? = some (.cells #[.string (str l.addr), t', .string (str l.data)] 33 (0, 0)) ∧
      Below W.heap.size W ((((V.setCell ⟨W.heap.size, 1, none⟩ t').setCell ⟨W.heap.size + 1, 0, none⟩ (.string (str l.addr))).setCell ⟨W.heap.size + 1, 1, none⟩ t').setCell ⟨W.heap.size + 1, 2, none⟩ (.string (str l.data))) ∧
      ((((V.setCell ⟨W.heap.size, 1, none⟩ t').setCell ⟨W.heap.size + 1, 0, none⟩ (.string (str l.addr))).setCell ⟨W.heap.size + 1, 1, none⟩ t').setCell ⟨W.heap.size + 1, 2, none⟩ (.string (str l.data))).ownsRow W.heap.size 46 4 t' n xs := by
  have h1 : (V.setCell ⟨W.heap.size, 1, none⟩ t').heap[W.heap.size + 1]? = some (.cells #[.string ⟨#[]⟩, .slice none 0 0, .string ⟨#[]⟩] 33 (0, 0)) := (heap_setCell_other _ _ _ _ (by simp)).trans g1
  have h2 := heap_setCell_same _ _ 2 _ _ (.string (str l.data)) (heap_setCell_same _ _ 1 _ _ t' (heap_setCell_same _ _ 0 _ _ (.string (str l.addr)) h1))
  have hs : ∀ {V : World} (_ : Below W.heap.size W V) (q j : Nat) (u : Value), W.heap.size ≤ q → Below W.heap.size W (V.setCell ⟨q, j, none⟩ u) := fun h q j u hq => h.setCell hq u
  refine ⟨by simpa using h2, hs (hs (hs (hs hb _ 1 _ (Nat.le_refl _)) _ 0 _ (by omega)) _ 1 _ (by omega)) _ 2 _ (by omega), own_base (own_keep hr fun k hk => ?_) (by omega)⟩
  have hk2 := (World.ownsRow.lt hr k hk).1
  rw [heap_setCell_other _ _ _ _ (by simp; omega), heap_setCell_other _ _ _ _ (by simp; omega), heap_setCell_other _ _ _ _ (by simp; omega), heap_setCell_other _ _ _ _ (by simp; omega)]
set_option maxRecDepth 100000 in
set_option maxHeartbeats 4000000 in
theorem copied_c {l : LogP} {tv : Value} {W : World} (h : WordsAt W tv l.tops) (hn : l.tops.length * 32 ≤ 140737488355328) :
    Calls Try.prog 40 #[logV l tv] W fun e W' => ∃ t', e = .returned (logV l t') ∧ Below W.heap.size W W' ∧ W'.ownsRow W.heap.size 46 4 t' l.tops.length (wordsC l.tops) := by
  have HF := Lib.hid (two_boxes W (.cells #[.string (str l.addr), tv, .string (str l.data)] 33 (0, 0)) (.cells #[.string ⟨#[]⟩, .slice none 0 0, .string ⟨#[]⟩] 33 (0, 0)) _ (Below.refl _ _))
  have HW := Lib.hid (h.below ((Below.refl _ W).alloc (Nat.le_refl _) (.cells #[.string (str l.addr), tv, .string (str l.data)] 33 (0, 0))))
  replace HW := Lib.hid (HW.out.below ((Below.refl _ _).alloc (Nat.le_refl _) (.cells #[.string ⟨#[]⟩, .slice none 0 0, .string ⟨#[]⟩] 33 (0, 0))))
  have HS := Lib.hid (show ((W.alloc (.cells #[.string (str l.addr), tv, .string (str l.data)] 33 (0, 0))).alloc (.cells #[.string ⟨#[]⟩, .slice none 0 0, .string ⟨#[]⟩] 33 (0, 0))).heap.size = W.heap.size + 2 by simp)
  obtain ⟨i0, hif, hz0, hz1, hz2⟩ := info_parts infoWord
  have HI := Lib.hid (And.intro hif (And.intro hz0 (And.intro hz1 hz2)))
  have hm : l.tops.length ≤ maxLen := by unfold maxLen; omega
  have HN := Lib.hid (And.intro hn hm)
  clear hif hz0 hz1 hz2 h hn hm
  obtain ⟨n, hnn⟩ : ∃ n, n = l.tops.length := ⟨_, rfl⟩
  obtain ⟨ws, hws⟩ : ∃ ws, ws = wordsC l.tops := ⟨_, rfl⟩
  have HNN := Lib.hid (And.intro hnn hws)
  unfold WordsAt at HW
  rw [← hnn, ← hws] at HW ⊢
  rw [← hnn] at HN
  clear hnn hws
  unfold logV
  go_enter Try.func40, Try.ntmps40
  go_upto_region 1 with fail
  generalize World.alloc _ _ = V0 at HF HW HS ⊢
  obtain ⟨g0, g1, hb⟩ := HF.out
  obtain ⟨pa, c, htv, h1, h2⟩ := HW.out
  subst htv
  have f0 := cell_of g0 0
  have f1 := cell_of g0 1
  have f2 := cell_of g0 2
  have e1 := free_of g0 1
  have k0 := cell_of g1 0
  have k1 := cell_of g1 1
  have k2 := cell_of g1 2
  have j0 := free_of g1 0
  have j1 := free_of g1 1
  have j2 := free_of g1 2
  simp only [List.getElem?_toArray, List.getElem?_cons_zero, List.getElem?_cons_succ] at f0 f1 f2 k0 k1 k2
  have HH := Lib.hid (And.intro g0 (And.intro g1 (And.intro hb (And.intro h1 h2))))
  clear g0 g1 hb h1 h2 HF HW
  cases pa with
  | none =>
    obtain ⟨e9, rfl⟩ := HH.out.2.2.2.1 rfl
    have hn0 : n = 0 := by rw [HNN.out.1, e9]; rfl
    subst hn0
    have hw0 : ws = [] := by rw [HNN.out.2, e9]; rfl
    subst hw0
    go_wp2_with (at_builtin; refine wpList_append_own_none (by rfl) _ _ 31 (by rfl) 0 46 i0 4 Try.underlying31 HI.out.1 (.slice none 0 0) 0 [] (by rfl) (World.ownsRow_nil _ _ _ _) (by rfl) ?_)
    have F := copied_fin (l := l) (t' := .slice none 0 0) (n := 0) (xs := []) HH.out.2.1 HH.out.2.2.1 (World.ownsRow_nil _ _ _ _)
    refine bodyPost_ret (results_cell_row Try.results40 _ _ _ _ _ _ _ rfl F.1 Try.underlying33 rfl (by kernel_rfl)) rfl ⟨_, rfl, F.2.1, F.2.2⟩
  | some ad =>
    go_wp2_with (at_builtin; refine wpList_append_own_at _ (by rfl) _ _ 31 (by rfl) (W.heap.size + 2) 46 i0 _ 4 32 Try.underlying31 HI.out.1 HI.out.2.1 HI.out.2.2.1 HI.out.2.2.2 rfl (by omega) (.slice none 0 0) 0 [] (by rfl) (World.ownsRow_nil _ _ _ _) ad n c ws (by rfl) (by rw [HNN.out.1, HNN.out.2]; exact wordsC_len _) (HH.out.2.2.2.2 ad rfl).2 (by rw [HNN.out.2]; exact wordsC_one _) (by rw [Nat.zero_add]; exact HN.out.2) (by rw [Nat.zero_add]; exact HN.out.1) (Nat.le_of_eq HS.out.symm) ?_; intro v' V1 r1 g2 _ _; rw [Nat.zero_add, List.nil_append] at r1; obtain ⟨a1, c1, hv1⟩ := own_any r1; subst hv1; have g0 := (g2.block _ (lt_of HH.out.1) (by simp [Value.ownBlock])).trans HH.out.1; have g1 := (g2.block _ (lt_of HH.out.2.1) (by simp [Value.ownBlock])).trans HH.out.2.1; have hb := HH.out.2.2.1.trans (grown_below g2 (HS.out ▸ Nat.le_add_right _ _)); clear f0 f1 f2 e1 k0 k1 k2 j0 j1 j2; have f0 := cell_of g0 0; have f1 := cell_of g0 1; have f2 := cell_of g0 2; have e1 := free_of g0 1; have k0 := cell_of g1 0; have k1 := cell_of g1 1; have k2 := cell_of g1 2; have j0 := free_of g1 0; have j1 := free_of g1 1; have j2 := free_of g1 2; simp only [List.getElem?_toArray, List.getElem?_cons_zero, List.getElem?_cons_succ] at f0 f1 f2 k0 k1 k2; have HR := Lib.hid (And.intro r1 (And.intro g1 hb)); clear r1 g0 g1 g2 hb)
    have F := copied_fin (l := l) HR.out.2.1 HR.out.2.2 HR.out.1
    refine bodyPost_ret (results_cell_row Try.results40 _ _ _ _ _ _ _ rfl F.1 Try.underlying33 rfl (by kernel_rfl)) rfl ⟨_, rfl, F.2.1, F.2.2⟩
end Go.Proofs.Ytginibphicmmmaa
