/- What the law WarmPlays stands on. -/
import Derived.Test.YtginibphicmmmaaJzp
import Derived.Test.YtginibphicmmmaaJPlain4
namespace Go.Proofs.Ytginibphicmmmaa
open Go.RowKit Go.Maps Go.Shelf Mp
theorem txt_at {V : World} {v : Value} {l : List Nm} {B : Nat} (h : V.ownsRow B 9 1 v l.length (txts l)) {k : Nat} {t : Nm} (hk : l[k]? = some t) : ∃ g c, v = .slice (some ⟨g, 0, none⟩) l.length c ∧ V.cell? ⟨g, k, none⟩ = some (.string (str t)) := by
  have hlt : k < l.length := (List.getElem?_eq_some_iff.1 hk).1
  rcases h.2 with ⟨e, _⟩ | ⟨g, cap, cur, e, _, hg, _, _, _, hx⟩
  · omega
  · refine ⟨g, cap, e, ?_⟩
    rw [cell_of hg]
    have e1 : cur[k]? = (cur.toList.take (l.length * 1))[k]? := by rw [List.getElem?_take_of_lt (by omega)]; simp
    rw [e1, hx]
    unfold txts
    rw [List.getElem?_map, hk]
    rfl
theorem logs_few : ∀ L : List Cg, (logsOf L).length ≤ L.length
  | [] => Nat.le_refl _
  | c :: L => by
    have h := logs_few L
    cases c <;> simp only [logsOf, List.length_append, List.length_cons, List.length_nil] <;> omega
theorem leav_le (L : List Cg) : (leavP L).length ≤ L.length := by rw [leavP_len]; exact List.length_filterMap_le _ _
/-- What the law may be told: the deeds' texts and topics are short. -/
def Told (L : List Cg) : Prop := ∀ l, l ∈ logsOf L → l.tops.length * 32 ≤ 140737488351232
theorem Told.on {L L' : List Cg} {d : Dd} (h : Told L) (hl : LogsIn L d L') (hd : d.l.tops.length * 32 ≤ 140737488351232) : Told L' := by
  intro l hm
  rcases hl l hm with h1 | rfl
  · exact h l h1
  · exact hd
section
variable {b e n : Nat} {L M : List Cg} {B : List (Nat × Obj)} {W V : World}
theorem Tw.xtotal2 (h : Tw L M b e n B W V) (hM : M.length < 900000) : Calls Try.prog 17 #[ptr e] V fun r V' => r = .returned (.int .i64 (tot M.reverse)) ∧ Tw L M b e n B W V' ∧ Below V.heap.size V V' := by
  obtain ⟨rv, ts, fx, h⟩ := h
  exact (rtotal_c h.it (by omega)).mono fun r V' h2 => ⟨h2.1, ⟨rv, ts, fx, h.call h2.2⟩, h2.2⟩
/-- A new set, and a new reference beside it. -/
theorem Tw.start (h : St [] b 0 [] W V) : Tw [] [] b V.heap.size 0 [] W (V.alloc (.cells #[.slice none 0 0] 29 (0, 0))) := by
  refine ⟨.slice none 0 0, [], [], h.with.own (gt' := rF V.heap.size (.slice none 0 0) []) ?_ (RAt.ob ?_)⟩
  · have hb := (Below.refl _ V).alloc (Nat.le_refl _) (.cells #[.slice none 0 0] 29 (0, 0))
    refine ⟨hb.os, hb.tape, hb.output, hb.size, fun k hk _ => hb.block k hk, fun k hk => ?_⟩
    rcases hk with rfl | hk | ⟨o, ho⟩
    · exact Or.inr (Nat.le_refl _)
    · cases hk
    · cases ho
  · exact ⟨heap_alloc_new V _, World.ownsRow_nil _ _ _ _, trivial, fun _ h => by cases h⟩
end
end Go.Proofs.Ytginibphicmmmaa
