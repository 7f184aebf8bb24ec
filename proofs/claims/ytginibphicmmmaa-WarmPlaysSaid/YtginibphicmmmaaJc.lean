/- What stands in a map; a place anew; the closures that take a key out again; one closure more. -/
import Derived.Test.YtginibphicmmmaaJb
import Derived.Test.YtginibphicmmmaaShelf
import Derived.Deep.AppendLies
import Derived.Carry
namespace Go.Proofs.Ytginibphicmmmaa
open Go.RowKit Go.Maps Mp

theorem infoFn : (Try.prog.info? 1).map (fun i => (i.zero, i.size, i.bytes)) = some (some .nilFunc, 1, 8) := by kernel_rfl
section
variable {m n : Nat} {W : World}
theorem look_unit {K : Type} {T : Kit Try.prog K Unit} {f : K → Option Unit} {k : K} (h : MapFn T m n f W) (hk : T.Ok k) (hz : T.z = .agg #[]) (hv : T.ev = fun _ => .agg #[]) : (Instr.lookup T.mt (.map (some m)) (T.ek k) true).run Try.prog W = .ok (.tuple #[.agg #[], .bool (f k).isSome]) W := by
  have h1 := h.look (k := k) hk true
  rw [h1]
  cases hf : f k with
  | none => simp [hz]
  | some x => simp [hv]
set_option maxRecDepth 100000 in
set_option maxHeartbeats 2000000 in
theorem hasS_c {f : Nm → Option Unit} (h : MapFn kitS m n f W) {a : Nm} (ha : a.length ≤ big) :
    Calls Try.prog 56 #[.map (some m), .string (str a)] W fun e W' => e = .returned (.bool (f a).isSome) ∧ Below W.heap.size W W' := by
  have HL := look_unit h (k := a) ha rfl rfl
  replace HL : (Instr.lookup 61 (.map (some m)) (.string (str a)) true).run Try.prog W = _ := HL
  generalize (f a).isSome = r at *
  clear h ha
  go_enter Try.func56, Try.ntmps56
  go_wp2_with fail
  go_ret
  exact ⟨rfl, (Below.refl _ W).alloc (Nat.le_refl _) _⟩
set_option maxRecDepth 100000 in
set_option maxHeartbeats 2000000 in
theorem hasP_c {f : Pl → Option Unit} (h : MapFn kitP m n f W) {p : Pl} (hp : p.Ok) :
    Calls Try.prog 48 #[.map (some m), .agg (plC p)] W fun e W' => e = .returned (.bool (f p).isSome) ∧ Below W.heap.size W W' := by
  have hb : Below W.heap.size W (W.alloc (.cells (plC p) 75 (0, 0))) := (Below.refl _ W).alloc (Nat.le_refl _) _
  have HL := look_unit (h.keep (hb.block m h.lt)) (k := p) hp rfl rfl
  replace HL : (Instr.lookup 60 (.map (some m)) (.agg (plC p)) true).run Try.prog (W.alloc (.cells (plC p) 75 (0, 0))) = _ := HL
  generalize (f p).isSome = r at *
  clear h hp
  unfold plC at *
  go_enter Try.func48, Try.ntmps48
  go_wp2_with fail
  go_ret
  exact ⟨rfl, hb.alloc (by simp) _⟩
end
theorem one_cell {V : World} {q : Nat} {v : Value} {t : TypeId} (h : V.heap[q]? = some (.cells #[v] t (0, 0))) : ∀ (j : Nat) (u : Value), [v][j]? = some u → V.cell? ((⟨q, 0, none⟩ : Addr).add j) = some u := by
  intro j u hj
  match j, hj with
  | 0, hj => cases hj; exact cell_of h 0
  | j + 1, hj => simp at hj
theorem chg_grown {F : Nat → Prop} {W V : World} {row : Option Nat} (h : W.grownBy V row) (hF : ∀ k, row = some k → F k) : Chg F F W V :=
  ⟨h.os, h.tape, h.output, h.size, fun k hk hn => h.block k hk fun e => hn (hF k e.symm), fun _ hk => Or.inl hk⟩
theorem Chg.newer {F F' G : Nat → Prop} {W V : World} (h : Chg F F' W V) (hG : ∀ k, G k → F k ∨ W.heap.size ≤ k) : Chg F G W V := ⟨h.os, h.tape, h.output, h.size, h.block, hG⟩
/-- Two boxes made, and then a call. -/
theorem two_boxes (W : World) (o1 o2 : Obj) (V : World) (hb : Below ((W.alloc o1).alloc o2).heap.size ((W.alloc o1).alloc o2) V) : V.heap[W.heap.size]? = some o1 ∧ V.heap[W.heap.size + 1]? = some o2 ∧ Below W.heap.size W V := by
  refine ⟨(hb.block _ (by simp; omega)).trans (((Below.heap_alloc _ _ _ (by simp))).trans (heap_alloc_new _ _)), (hb.block _ (by simp)).trans ?_, (((Below.refl _ W).alloc (Nat.le_refl _) _).alloc (by simp) _).trans (hb.mono (by simp; omega))⟩
  have h := heap_alloc_new (W.alloc o1) o2
  rwa [alloc_size] at h
theorem sclone_c (s : ByteArray) (w : World) (hlim : s.size ≤ 281474976710656) : Calls Try.prog 45 #[.string s] w fun e w' => e = .returned (.string s) ∧ Below w.heap.size w w' := by
  have C := Lib.hid (Try.stringslite_Clone s w hlim)
  clear hlim
  go_enter Try.func45, Try.ntmps45
  go_wp2_with (go_at_call 55; refine C.out.mono ?_; rintro e w1 ⟨rfl, h1⟩)
  go_ret
  exact ⟨rfl, h1⟩
set_option maxRecDepth 100000 in
set_option maxHeartbeats 2000000 in
theorem pclone_c {p : Pl} (hp : p.addr.length ≤ big) (W : World) : Calls Try.prog 42 #[.agg (plC p)] W fun e W' => e = .returned (.agg (plC p)) ∧ Below W.heap.size W W' := by
  have C := Lib.hid (fun V => sclone_c (str p.addr) V (by rw [str_size]; exact hp))
  have HF := Lib.hid (two_boxes W (.cells (plC p) 75 (0, 0)) (.cells #[.string ⟨#[]⟩, .bool false, .int .u64 0, .int .u64 0, .int .u64 0, .int .u64 0] 75 (0, 0)))
  unfold plC at *
  clear hp
  go_enter Try.func42, Try.ntmps42
  go_wp2_with fail
  refine (C.out _).mono ?_
  rintro e V1 ⟨rfl, hb⟩
  obtain ⟨g0, g1, hbw⟩ := HF.out V1 hb
  have f0 := cell_of g0 0
  have f1 := cell_of g0 1
  have f2 := cell_of g0 2
  have f3 := cell_of g0 3
  have f4 := cell_of g0 4
  have f5 := cell_of g0 5
  have e0 := free_of g0 0
  have k0 := cell_of g1 0
  have k1 := cell_of g1 1
  have k2 := cell_of g1 2
  have k3 := cell_of g1 3
  have k4 := cell_of g1 4
  have k5 := cell_of g1 5
  have j0 := free_of g1 0
  have j1 := free_of g1 1
  have j2 := free_of g1 2
  have j3 := free_of g1 3
  have j4 := free_of g1 4
  have j5 := free_of g1 5
  simp only [List.getElem?_toArray, List.getElem?_cons_zero, List.getElem?_cons_succ] at f0 f1 f2 f3 f4 f5 k0 k1 k2 k3 k4 k5
  have HG := Lib.hid (And.intro g0 (And.intro g1 hbw))
  clear g0 g1 hbw hb
  go_wp2_with fail
  have h1 : (V1.setCell ⟨W.heap.size, 0, none⟩ (.string (str p.addr))).heap[W.heap.size + 1]? = some (.cells #[.string ⟨#[]⟩, .bool false, .int .u64 0, .int .u64 0, .int .u64 0, .int .u64 0] 75 (0, 0)) := (heap_setCell_other _ _ _ _ (by simp)).trans HG.out.2.1
  have h2 := heap_setCell_same _ _ 5 _ _ (.int .u64 (p.slot.d : Nat)) (heap_setCell_same _ _ 4 _ _ (.int .u64 (p.slot.c : Nat)) (heap_setCell_same _ _ 3 _ _ (.int .u64 (p.slot.b : Nat)) (heap_setCell_same _ _ 2 _ _ (.int .u64 (p.slot.a : Nat)) (heap_setCell_same _ _ 1 _ _ (.bool p.whole) (heap_setCell_same _ _ 0 _ _ (.string (str p.addr)) h1)))))
  have hb : ∀ {V : World} (_ : Below W.heap.size W V) (q j : Nat) (u : Value), W.heap.size ≤ q → Below W.heap.size W (V.setCell ⟨q, j, none⟩ u) := fun h q j u hq => h.setCell hq u
  refine bodyPost_ret (results_cell_row Try.results42 _ _ _ _ _ _ _ rfl h2 Try.underlying75 rfl (by kernel_rfl)) rfl ⟨by simp, ?_⟩
  exact hb (hb (hb (hb (hb (hb (hb HG.out.2.2 _ 0 _ (Nat.le_refl _)) _ 0 _ (by omega)) _ 1 _ (by omega)) _ 2 _ (by omega)) _ 3 _ (by omega)) _ 4 _ (by omega)) _ 5 _ (by omega)
set_option maxRecDepth 100000 in
set_option maxHeartbeats 4000000 in
/-- One closure more. -/
theorem change_c {b k : Nat} {W : World} {c0 c1 c2 c3 c4 bv : Value} {vs : List Value} (hc : W.heap[b]? = some (.cells #[c0, c1, c2, c3, c4, bv] 64 (0, 0))) (hr : W.ownsRow 0 1 1 bv k vs) (hk : k < 1000000000000) (g : Nat) (ba ca : Array Value) :
    Calls Try.prog 43 #[.pointer (some ⟨b, 0, none⟩), .func (.func g) ba ca] W fun e W' => e = .returned (.tuple #[]) ∧ ∃ bv', W'.heap[b]? = some (.cells #[c0, c1, c2, c3, c4, bv'] 64 (0, 0)) ∧ W'.ownsRow 0 1 1 bv' (k + 1) (vs ++ [.func (.func g) ba ca]) ∧
      (∀ j, bv'.ownBlock = some j → bv.ownBlock = some j ∨ W.heap.size ≤ j) ∧ Chg (fun j => j = b ∨ bv.ownBlock = some j) (fun j => j = b ∨ bv'.ownBlock = some j) W W' := by
  have e0 : W.cell? ⟨b, 5, none⟩ = some bv := cell_of hc 5
  obtain ⟨i0, hi, hz0, hz1, hz2⟩ := info_parts infoFn
  have HI := Lib.hid (And.intro hi (And.intro hz0 (And.intro hz1 hz2)))
  have hbb : bv.ownBlock ≠ some b := fun e => by
    obtain ⟨cs, h2⟩ := own_block hr e
    rw [hc] at h2; injection h2 with h2; injection h2 with _ h2; exact absurd h2 (by decide)
  have HC := Lib.hid (And.intro hc (And.intro hr (And.intro hk hbb)))
  clear hi hz0 hz1 hz2 hc hr hk hbb
  obtain ⟨a, cp, hbv⟩ := own_any HC.out.2.1
  subst hbv
  go_enter Try.func43, Try.ntmps43
  go_wp2_with (at_builtin; refine wpList_append_lies _ rfl _ _ 62 rfl 0 1 i0 .nilFunc 1 8 Try.underlying62 HI.out.1 HI.out.2.1 HI.out.2.2.1 HI.out.2.2.2 rfl (by omega) (.slice a k cp) k vs rfl (World.ownsRow.alloc HC.out.2.1 _) ⟨W.heap.size, 0, none⟩ 1 1 [.func (.func g) ba ca] rfl rfl (one_cell (heap_alloc_new W _)) (by intro u hu; rw [List.mem_singleton] at hu; rw [hu]; rfl) (by omega) (by have := HC.out.2.2.1; unfold maxLen; omega) (by have := HC.out.2.2.1; omega) (Nat.zero_le _) _ rfl ?_; intro g1 cap V r1 g2 l1 m1; have hcb : V.heap[b]? = some (.cells #[c0, c1, c2, c3, c4, .slice a k cp] 64 (0, 0)) := (g2.block b (by have := lt_of HC.out.1; simp; omega) (Ne.symm HC.out.2.2.2)).trans ((Below.heap_alloc _ _ _ (lt_of HC.out.1)).trans HC.out.1); have d1 := cell_of hcb 5; have d2 := free_of hcb 5; simp only [List.getElem?_toArray, List.getElem?_cons_zero, List.getElem?_cons_succ] at d1; have HV := Lib.hid (And.intro hcb (And.intro r1 (And.intro g2 (And.intro l1 m1)))); clear hcb r1 g2 l1 m1)
  go_end0
  obtain ⟨hcb, r1, g2, l1, m1⟩ := HV.out
  have hg1b : g1 ≠ b := fun e => by
    rcases l1 with h | h
    · exact HC.out.2.2.2 (e ▸ h)
    · have := lt_of HC.out.1; simp at h; omega
  refine ⟨rfl, .slice (some ⟨g1, 0, none⟩) (k + 1) cap, ?_, own_keep r1 (fun j hj => heap_setCell_other _ _ _ _ ?_), fun j hj => ?_, ?_⟩
  · have h2 := heap_setCell_same _ _ 5 _ _ (.slice (some ⟨g1, 0, none⟩) (k + 1) cap) hcb
    simpa using h2
  · cases hj; simpa using hg1b
  · cases hj
    rcases l1 with h | h
    · exact Or.inl h
    · rw [alloc_size] at h; right; rw [h]; exact Nat.le_succ _
  · have c1 : Chg (fun j => j = b ∨ (Value.slice a k cp).ownBlock = some j) (fun j => j = b ∨ (Value.slice a k cp).ownBlock = some j) W V := (Chg.of_below ((Below.refl _ W).alloc (Nat.le_refl _) _)).trans (chg_grown g2 fun k hk => Or.inr hk)
    refine (chg_set c1 (Or.inl (Or.inl rfl)) 5 _).newer fun j hj => ?_
    rcases hj with e | e
    · exact Or.inl (Or.inl e)
    · cases e
      rcases l1 with h | h
      · exact Or.inl (Or.inr h)
      · rw [alloc_size] at h; right; rw [h]; exact Nat.le_succ _
end Go.Proofs.Ytginibphicmmmaa
