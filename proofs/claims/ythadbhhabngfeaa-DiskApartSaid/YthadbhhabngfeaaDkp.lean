/- Names: the names of all files, rising. -/
import Derived.Test.YthadbhhabngfeaaDkLay
import Derived.Test.YthadbhhabngfeaaDkn
namespace Go.Proofs.Ythadbhhabngfeaa
open Go.RowKit Go.Maps Go.Sort Go.Shelf
theorem sortsS (m : Nat) : AnyZ.SortsIn Try.prog Try.diskSorted_ren Fence.wide m :=
  ⟨fun blk off cap ss W hH hblk hsz => callsIn_wide.2 (AnyM.slices_Sort_string Try.diskSort blk off cap ss W hH hblk hsz),
   fun p cap W => callsIn_wide.2 (AnyM.slices_Sort_string_none Try.diskSort p cap W)⟩
theorem keys_any (mb : Option Nat) (W : World) : CallsIn Fence.wide 5 Try.prog 29 #[.map mb] W fun e w' => e = .returned (.func (.func 37) #[] #[.pointer (some ⟨W.heap.size, 0, none⟩)]) ∧ w' = W.alloc (.cells #[.map mb] 43) :=
  AnyZ.keys_in Try.diskKeys Fence.wide 5 trivial rfl mb W
set_option maxHeartbeats 1000000 in
theorem sorted_any (b nn : Nat) (D0 : DataW Unit) (w : World) (hown : w.ownsMap Try.prog 9 ptrElem b nn D0) (hmax : Maps.size D0 ≤ maxLen) (hbytes : Maps.size D0 * 16 ≤ 140737488355328) :
    CallsIn Fence.wide 5 Try.prog 28 #[.func (.func 37) #[] #[.pointer (some ⟨w.heap.size, 0, none⟩)]] (w.alloc (.cells #[.map (some b)] 43)) fun e w' => ∃ (v : Value) (ss : List (List UInt8)), e = .returned v ∧ ss.Perm (strKeys D0) ∧
      w'.ownsRow (w.alloc (.cells #[.map (some b)] 43)).heap.size 9 1 v ss.length ((ss.mergeSort (fun x y => decide (x ≤ y))).map encStr) ∧ (v = .slice none 0 0 ↔ ss = []) ∧ Below (w.alloc (.cells #[.map (some b)] 43)).heap.size (w.alloc (.cells #[.map (some b)] 43)) w' := by
  have hbl := hown.lt
  have hseq : SeqGives Fence.wide 2 Try.prog 37 #[.pointer (some ⟨w.heap.size, 0, none⟩)] encStr (fun ss => ss.Perm (strKeys D0)) (Maps.size D0) (w.alloc (.cells #[.map (some b)] 43)) :=
    AnyZ.keys_gives (ρ := Try.diskKeys_ren) { Try.diskKeys with } Fence.wide _ trivial rfl (by omega) w.heap.size b nn D0 _ (by simp) (by simp) (by
      obtain ⟨es, clock, hb, Ft, hs, hD⟩ := hown
      exact ⟨es, clock, (Below.heap_alloc _ _ b hbl).trans hb, Ft, hs, hD⟩)
  exact AnyZ.sorted_in Try.diskSorted Fence.wide 5 trivial trivial trivial trivial rfl (by omega) (sortsS _) (enters_of Try.func36 (by kernel_rfl) rfl) 37 #[.pointer (some ⟨w.heap.size, 0, none⟩)] trivial (enters_of Try.func37 (by kernel_rfl) rfl) _ _ hmax hbytes _ hseq
section
variable {x : Dk} {W : World}
/-- The names on the list are just those of the files. -/
def Just (x : Dk) (ns : List Nm) : Prop := ns.Nodup ∧ ∀ s, s ∈ ns ↔ (x.fs s).isSome = true
theorem just_perm {D : DataW Unit} {b n : Nat} {ns : List Nm} (hown : W.ownsMap Try.prog 9 ptrElem b n D) (hhas : ∀ s, Maps.has D (.string s) = (x.fs s).isSome) (hj : Just x ns) : ns.Perm (strKeys D) := by
  obtain ⟨es, rfl, hp, _⟩ := hown.entries law
  obtain ⟨es', he, hk⟩ := hown.keysOf
  cases he
  exact perm_strKeys hp (fun p hp' => by obtain ⟨v, hv⟩ := hk p hp'; obtain ⟨s, _, e, _⟩ := Maps.keyOf_str Try.underlying9 hv; exact ⟨s, e⟩) hj.1 (fun s => (hj.2 s).trans (by rw [hhas]))
set_option maxRecDepth 100000 in
set_option maxHeartbeats 1000000 in
theorem names_c (h : DiskAt x W) {ns : List Nm} (hj : Just x ns) (hns : ns.length ≤ 100) :
    Calls Try.prog 18 #[.pointer (some ⟨x.d, 0, none⟩)] W fun e W' => ∃ v, e = .returned v ∧ W'.ownsRow W.heap.size 9 1 v ns.length ((ns.mergeSort leB).map encStr) ∧ Below W.heap.size W W' := by
  obtain ⟨D, hown, hat, hhas⟩ := h.own
  obtain ⟨⟨_, c1, _⟩, _⟩ := h.reads
  have hperm := just_perm hown hhas hj
  have hsz : Maps.size D = ns.length := by
    obtain ⟨es, rfl, _⟩ := hown.entries law
    have := hperm.length_eq
    rw [this]; show es.length = (es.map _).length; rw [List.length_map]
  have hmax : Maps.size D ≤ maxLen := by rw [hsz]; unfold maxLen; omega
  have hbytes : Maps.size D * 16 ≤ 140737488355328 := by rw [hsz]; omega
  have HP := Lib.hid hperm
  clear hperm hsz hat hhas h hj
  refine (callsIn_wide (n := 6)).1 ?_
  have hfK : Fence.wide.fn 29 := trivial
  have hfS : Fence.wide.fn 28 := trivial
  refine callsIn_of_wp Try.func18 rfl trivial ?_ rfl
  simp only [Try.ntmps18, List.size_toArray, List.length_cons, List.length_nil, Nat.reduceAdd, Nat.reduceSub, Array.replicate_succ, Array.replicate_zero, List.push_toArray, List.append_toArray, List.nil_append, List.cons_append]
  gi_wp2_with (first
    | (gi_at_call 29; refine (keys_any _ _).mono ?_; rintro e w' ⟨rfl, rfl⟩)
    | (gi_at_call 28; refine (sorted_any x.m x.n D W hown hmax hbytes).mono ?_; rintro e w' ⟨v, ss, rfl, hS, hrow, hnil, hb⟩))
  go_ret
  have hp := hS.trans HP.out.symm
  refine ⟨v, rfl, ?_, ((Below.refl _ W).alloc (Nat.le_refl _) _).trans (hb.mono (by simp))⟩
  rw [← hp.length_eq, ← mergeSort_of_perm hp]
  exact ownsRow_base_a hrow (by simp)
end
end Go.Proofs.Ythadbhhabngfeaa
