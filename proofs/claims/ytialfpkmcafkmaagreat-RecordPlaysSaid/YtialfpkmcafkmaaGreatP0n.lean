/- Names: the names of all files, rising. -/
import Derived.Test.YtialfpkmcafkmaaGreatDkLay
import Derived.Test.YtialfpkmcafkmaaGreatP14
namespace Go.Proofs.YtialfpkmcafkmaaGreat
open Go.RowKit Go.Maps Go.Sort Go.Shelf
theorem sortsS (m : Nat) : AnyZ.SortsIn Tryz.prog Tryz.diskSorted_ren Fence.wide m :=
  ⟨fun blk off cap ss W hH hblk hsz => callsIn_wide.2 (AnyM.slices_Sort_string Tryz.diskSort blk off cap ss W hH hblk hsz),
   fun p cap W => callsIn_wide.2 (AnyM.slices_Sort_string_none Tryz.diskSort p cap W)⟩
theorem keys_any (mb : Option Nat) (W : World) : CallsIn Fence.wide 5 Tryz.prog 61 #[.map mb] W fun e w' => e = .returned (.func (.func 79) #[] #[.pointer (some ⟨W.heap.size, 0, none⟩)]) ∧ w' = W.alloc (.cells #[.map mb] 66) :=
  AnyZ.keys_in Tryz.diskKeys Fence.wide 5 trivial rfl mb W
set_option maxHeartbeats 1000000 in
theorem sorted_any (b nn : Nat) (D0 : DataW Unit) (w : World) (hown : w.ownsMap Tryz.prog 9 ptrElem b nn D0) (hmax : Maps.size D0 ≤ maxLen) (hbytes : Maps.size D0 * 16 ≤ 140737488355328) :
    CallsIn Fence.wide 5 Tryz.prog 60 #[.func (.func 79) #[] #[.pointer (some ⟨w.heap.size, 0, none⟩)]] (w.alloc (.cells #[.map (some b)] 66)) fun e w' => ∃ (v : Value) (ss : List (List UInt8)), e = .returned v ∧ ss.Perm (strKeys D0) ∧
      w'.ownsRow (w.alloc (.cells #[.map (some b)] 66)).heap.size 9 1 v ss.length ((ss.mergeSort (fun x y => decide (x ≤ y))).map encStr) ∧ (v = .slice none 0 0 ↔ ss = []) ∧ Below (w.alloc (.cells #[.map (some b)] 66)).heap.size (w.alloc (.cells #[.map (some b)] 66)) w' := by
  have hbl := hown.lt
  have hseq : SeqGives Fence.wide 2 Tryz.prog 79 #[.pointer (some ⟨w.heap.size, 0, none⟩)] encStr (fun ss => ss.Perm (strKeys D0)) (Maps.size D0) (w.alloc (.cells #[.map (some b)] 66)) :=
    AnyZ.keys_gives (ρ := Tryz.diskKeys_ren) { Tryz.diskKeys with } Fence.wide _ trivial rfl (by omega) w.heap.size b nn D0 _ (by simp) (by simp) (by
      obtain ⟨es, clock, hb, Ft, hs, hD⟩ := hown
      exact ⟨es, clock, (Below.heap_alloc _ _ b hbl).trans hb, Ft, hs, hD⟩)
  exact AnyZ.sorted_in Tryz.diskSorted Fence.wide 5 trivial trivial trivial trivial rfl (by omega) (sortsS _) (enters_of Tryz.func78 (by kernel_rfl) rfl) 79 #[.pointer (some ⟨w.heap.size, 0, none⟩)] trivial (enters_of Tryz.func79 (by kernel_rfl) rfl) _ _ hmax hbytes _ hseq
section
variable {x : Dk} {W : World}
/-- The names on the list are just those of the files. -/
def Just (x : Dk) (ns : List Nm) : Prop := ns.Nodup ∧ ∀ s, s ∈ ns ↔ (x.fs s).isSome = true
theorem just_perm {D : DataW Unit} {b n : Nat} {ns : List Nm} (hown : W.ownsMap Tryz.prog 9 ptrElem b n D) (hhas : ∀ s, Maps.has D (.string s) = (x.fs s).isSome) (hj : Just x ns) : ns.Perm (strKeys D) := by
  obtain ⟨es, rfl, hp, _⟩ := hown.entries law
  obtain ⟨es', he, hk⟩ := hown.keysOf
  cases he
  exact perm_strKeys hp (fun p hp' => by obtain ⟨v, hv⟩ := hk p hp'; obtain ⟨s, _, e, _⟩ := Maps.keyOf_str Tryz.underlying9 hv; exact ⟨s, e⟩) hj.1 (fun s => (hj.2 s).trans (by rw [hhas]))
set_option maxRecDepth 100000 in
set_option maxHeartbeats 1000000 in
theorem names_c (h : DiskAt x W) {ns : List Nm} (hj : Just x ns) (hns : ns.length ≤ 100) :
    Calls Tryz.prog 30 #[.pointer (some ⟨x.d, 0, none⟩)] W fun e W' => ∃ v, e = .returned v ∧ W'.ownsRow W.heap.size 9 1 v ns.length ((ns.mergeSort leB).map encStr) ∧ Below W.heap.size W W' := by
  obtain ⟨D, hown, hat, hhas⟩ := h.own
  obtain ⟨⟨_, c1, _⟩, _⟩ := h.reads
  have hperm := just_perm hown hhas hj
  have hsz : Maps.size D = ns.length := by
    obtain ⟨es, rfl, _⟩ := hown.entries law
    have := hperm.length_eq
    rw [this]; show es.length = (es.map _).length; rw [List.length_map]
  have hmax : Maps.size D ≤ maxLen := by rw [hsz]; unfold maxLen; omega
  have hbytes : Maps.size D * 16 ≤ 140737488355328 := by rw [hsz]; omega
  have HP := Lib.hid hperm
  clear hperm hsz hat hhas h hj
  refine (callsIn_wide (n := 6)).1 ?_
  have hfK : Fence.wide.fn 61 := trivial
  have hfS : Fence.wide.fn 60 := trivial
  refine callsIn_of_wp Tryz.func30 rfl trivial ?_ rfl
  simp only [Tryz.ntmps30, List.size_toArray, List.length_cons, List.length_nil, Nat.reduceAdd, Nat.reduceSub, Array.replicate_succ, Array.replicate_zero, List.push_toArray, List.append_toArray, List.nil_append, List.cons_append]
  gi_wp2_with (first
    | (gi_at_call 61; refine (keys_any _ _).mono ?_; rintro e w' ⟨rfl, rfl⟩)
    | (gi_at_call 60; refine (sorted_any x.m x.n D W hown hmax hbytes).mono ?_; rintro e w' ⟨v, ss, rfl, hS, hrow, hnil, hb⟩))
  go_ret
  have hp := hS.trans HP.out.symm
  refine ⟨v, rfl, ?_, ((Below.refl _ W).alloc (Nat.le_refl _) _).trans (hb.mono (by simp))⟩
  rw [← hp.length_eq, ← mergeSort_of_perm hp]
  exact ownsRow_base_a hrow (by simp)
end
end Go.Proofs.YtialfpkmcafkmaaGreat
