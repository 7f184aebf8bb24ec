/- Who leaves, rising. -/
import Derived.Test.YtginibphicmmmaaWaLay
import Derived.Test.YtginibphicmmmaaJm
namespace Go.Proofs.Ytginibphicmmmaa
open Go.RowKit Go.Maps Go.Sort Go.Shelf Mp
theorem sortsS (m : Nat) : AnyZ.SortsIn Try.prog Try.waSorted_ren Fence.wide m :=
  ⟨fun blk off cap ss W hH hblk hsz => callsIn_wide.2 (AnyM.slices_Sort_string Try.waSort blk off cap ss W hH hblk hsz),
   fun p cap W => callsIn_wide.2 (AnyM.slices_Sort_string_none Try.waSort p cap W)⟩
theorem keys_any (mb : Option Nat) (W : World) : CallsIn Fence.wide 5 Try.prog 39 #[.map mb] W fun e w' => e = .returned (.func (.func 53) #[] #[.pointer (some ⟨W.heap.size, 0, none⟩)]) ∧ w' = W.alloc (.cells #[.map mb] 61) :=
  AnyZ.keys_in Try.waKeys Fence.wide 5 trivial rfl mb W
set_option maxHeartbeats 1000000 in
theorem sorted_any (b nn : Nat) (D0 : DataW Value) (w : World) (hown : w.ownsMap Try.prog 9 heldElem b nn D0) (hmax : Maps.size D0 ≤ maxLen) (hbytes : Maps.size D0 * 16 ≤ 140737488355328) :
    CallsIn Fence.wide 5 Try.prog 38 #[.func (.func 53) #[] #[.pointer (some ⟨w.heap.size, 0, none⟩)]] (w.alloc (.cells #[.map (some b)] 61)) fun e w' => ∃ (v : Value) (ss : List (List UInt8)), e = .returned v ∧ ss.Perm (strKeys D0) ∧
      w'.ownsRow (w.alloc (.cells #[.map (some b)] 61)).heap.size 9 1 v ss.length ((ss.mergeSort (fun x y => decide (x ≤ y))).map encStr) ∧ (v = .slice none 0 0 ↔ ss = []) ∧ Below (w.alloc (.cells #[.map (some b)] 61)).heap.size (w.alloc (.cells #[.map (some b)] 61)) w' := by
  have hbl := hown.lt
  have hseq : SeqGives Fence.wide 2 Try.prog 53 #[.pointer (some ⟨w.heap.size, 0, none⟩)] encStr (fun ss => ss.Perm (strKeys D0)) (Maps.size D0) (w.alloc (.cells #[.map (some b)] 61)) :=
    AnyZ.keys_gives (ρ := Try.waKeys_ren) { Try.waKeys with } Fence.wide _ trivial rfl (by omega) w.heap.size b nn D0 _ (by simp) (by simp) (by
      obtain ⟨es, clock, hb, Ft, hs, hD⟩ := hown
      exact ⟨es, clock, (Below.heap_alloc _ _ b hbl).trans hb, Ft, hs, hD⟩)
  exact AnyZ.sorted_in Try.waSorted Fence.wide 5 trivial trivial trivial trivial rfl (by omega) (sortsS _) (enters_of Try.func52 (by kernel_rfl) rfl) 53 #[.pointer (some ⟨w.heap.size, 0, none⟩)] trivial (enters_of Try.func53 (by kernel_rfl) rfl) _ _ hmax hbytes _ hseq

/-- The addresses that a map holds. -/
theorem keysOf {mo n : Nat} {f : Nm → Option Unit} {W : World} (h : MapFn kitS mo n f W) : ∃ (D : DataW Value) (ns : List Nm), W.ownsMap Try.prog 9 heldElem mo n D ∧ ns.Nodup ∧ (∀ s, s ∈ ns ↔ (f s).isSome = true) ∧ ns.Perm (strKeys D) ∧ Maps.size D = ns.length ∧ ns.length ≤ n := by
  obtain ⟨D, hown, hS⟩ := h
  obtain ⟨es, rfl, hp, hlen⟩ := hown.entries (string_keyed Try.underlying9)
  have hk : ∀ p ∈ es, ∃ x, p.1 = .string x := by
    obtain ⟨es', he, hk⟩ := hown.keysOf
    cases he
    intro p hp'
    obtain ⟨v, hv⟩ := hk p hp'
    obtain ⟨s, _, e, _⟩ := Maps.keyOf_str Try.underlying9 hv
    exact ⟨s, e⟩
  have hnd : (es.map fun p => strOf p.1).Nodup := by
    refine List.pairwise_map.2 (hp.imp_of_mem fun {p q} hp' hq' hne e => hne ?_)
    obtain ⟨a, ha⟩ := hk p hp'
    obtain ⟨b, hb⟩ := hk q hq'
    rw [ha, hb] at e ⊢
    exact congrArg _ e
  have hhas : ∀ s, s ∈ (es.map fun p => strOf p.1) ↔ Maps.has (.map es : DataW Value) (.string s) = true := fun s => by
    rw [Maps.has_eq, List.any_eq_true, List.mem_map]
    constructor
    · rintro ⟨p, hp', e⟩
      obtain ⟨a, ha⟩ := hk p hp'
      rw [ha] at e
      refine ⟨p, hp', ?_⟩
      rw [ha, show a = s from e]
      simp [Lit.sameKey]
    · rintro ⟨p, hp', e⟩
      obtain ⟨a, ha⟩ := hk p hp'
      refine ⟨p, hp', ?_⟩
      rw [ha] at e ⊢
      simpa [Lit.sameKey, strOf] using e
  refine ⟨_, _, hown, hnd, fun s => ?_, List.Perm.refl _, by show es.length = (es.map _).length; rw [List.length_map], ?_⟩
  · rw [hhas s]
    by_cases hl : s.length ≤ big
    · rw [← hS.has s hl]; rfl
    · rw [hS.off s hl]
      constructor
      · intro h1
        obtain ⟨k, h2, h3⟩ := hS.keys _ h1
        cases h3
        exact absurd h2 hl
      · intro h1; cases h1
  · obtain ⟨es2, clock, _, _, hsz, hD⟩ := hown
    cases hD
    rw [List.length_map, (Go.WideShapes.sorted_perm _).length_eq, List.length_map, Array.length_toList]
    exact hsz
/-- slices.Sorted(maps.Keys(m)) at a set of texts: they, rising. -/
theorem addrs_c {mo n : Nat} {f : Nm → Option Unit} {W : World} (h : MapFn kitS mo n f W) (hn : n < 1000000000) : ∃ ns : List Nm, ns.Nodup ∧ (∀ s, s ∈ ns ↔ (f s).isSome = true) ∧ ns.length ≤ n ∧
    CallsIn Fence.wide 5 Try.prog 38 #[.func (.func 53) #[] #[.pointer (some ⟨W.heap.size, 0, none⟩)]] (W.alloc (.cells #[.map (some mo)] 61)) fun e w' =>
      ∃ v, e = .returned v ∧ w'.ownsRow (W.heap.size + 1) 9 1 v ns.length ((ns.mergeSort leB).map encStr) ∧ Below (W.heap.size + 1) (W.alloc (.cells #[.map (some mo)] 61)) w' := by
  obtain ⟨D, ns, hown, hnd, hm, hp, hsz, hle⟩ := keysOf h
  refine ⟨ns, hnd, hm, hle, (sorted_any mo n D W hown (by rw [hsz]; unfold maxLen; omega) (by rw [hsz]; omega)).mono ?_⟩
  rintro e w' ⟨v, ss, rfl, hS, hrow, hnil, hb⟩
  have hq := hS.trans hp.symm
  rw [World.size_alloc] at hrow hb
  refine ⟨v, rfl, ?_, hb⟩
  rw [← hq.length_eq, ← mergeSort_of_perm hq]
  exact hrow
def goneL (L : List Cg) : List Nm := L.filterMap gnOf
theorem goneL_mem {L : List Cg} {s : Nm} : s ∈ goneL L ↔ (hasBy gnOf L s).isSome = true := by
  rw [hasBy_mem]
  unfold goneL
  rw [List.mem_filterMap]
theorem goneL_nodup : ∀ {L : List Cg}, Once L → (goneL L).Nodup
  | [], _ => List.nodup_nil
  | c :: L, h => by
    have ih := goneL_nodup h.2.2.2
    unfold goneL at ih ⊢
    cases hg : gnOf c with
    | none => rw [List.filterMap_cons_none hg]; exact ih
    | some a =>
      rw [List.filterMap_cons_some hg, List.nodup_cons]
      refine ⟨fun hm => ?_, ih⟩
      have h1 : (hasBy gnOf L a).isSome = true := goneL_mem.1 hm
      rw [h.2.2.1 a hg] at h1
      cases h1
theorem goneL_le (L : List Cg) : (goneL L).length ≤ L.length := List.length_filterMap_le _ _
theorem own_base {w : World} {B B' z : Nat} {e : TypeId} {v : Value} {n : Nat} {xs : List Value} (h : w.ownsRow B e z v n xs) (hB : B' ≤ B) : w.ownsRow B' e z v n xs := by
  refine ⟨h.1, ?_⟩
  rcases h.2 with h0 | ⟨g, cap, cur, e1, hbg, rest⟩
  · exact Or.inl h0
  · exact Or.inr ⟨g, cap, cur, e1, Nat.le_trans hB hbg, rest⟩
/-- Who leaves, rising. -/
def leavP (L : List Cg) : List Nm := (goneL L).mergeSort leB
theorem leavP_len (L : List Cg) : (leavP L).length = (goneL L).length := List.length_mergeSort _
section
variable {x : Sx} {b n : Nat} {L : List Cg} {W : World}
set_option maxRecDepth 100000 in
set_option maxHeartbeats 4000000 in
theorem leaving_c (h : WAt x b L n W) (hn : n < 1000000000) : Calls Try.prog 11 #[ptr b] W fun e W' => ∃ v, e = .returned v ∧ W'.ownsRow W.heap.size 9 1 v (leavP L).length ((leavP L).map fun s => .string (str s)) ∧ Below W.heap.size W W' := by
  obtain ⟨⟨_, _, d0, _⟩, _⟩ := h.cells
  obtain ⟨ns, hnd, hmem, hle, hcall⟩ := addrs_c h.mg hn
  have hp : ns.Perm (goneL L) := (List.perm_ext_iff_of_nodup hnd (goneL_nodup h.once)).2 fun s => by rw [hmem, goneL_mem]
  have he : ns.mergeSort leB = leavP L := mergeSort_of_perm hp
  have hl : ns.length = (leavP L).length := by rw [leavP_len, hp.length_eq]
  rw [he, hl] at hcall
  have CK := Lib.hid (callsIn_wide.1 (keys_any (some x.mg) W))
  have CS := Lib.hid (callsIn_wide.1 hcall)
  unfold ptr at *
  clear h hnd hmem hle hcall hp he hl hn
  go_enter Try.func11, Try.ntmps11
  go_wp2_with fail
  refine CK.out.mono ?_
  rintro e V1 ⟨rfl, rfl⟩
  go_wp2_with fail
  refine CS.out.mono ?_
  rintro e V2 ⟨v, rfl, hrow, hb⟩
  have HR := Lib.hid (And.intro hrow hb)
  clear hrow hb
  go_wp2_with fail
  go_ret
  obtain ⟨hrow, hb⟩ := HR.out
  exact ⟨v, rfl, own_base hrow (Nat.le_succ _), ((Below.refl _ W).alloc (Nat.le_refl _) _).trans (hb.mono (Nat.le_succ _))⟩
end
end Go.Proofs.Ytginibphicmmmaa
