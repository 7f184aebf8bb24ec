/- The disk's other calls, as plain data has them. -/
import Derived.Test.YtialfpkmcafkmaaGreatQg
namespace Go.Proofs.YtialfpkmcafkmaaGreat
open Go.RowKit Go.Maps Go.WideElems Go.ChangeMaps Go.MapKept Go.WideMaps
section
variable {p : Pd} {d N : Nat} {F : Nat → Prop} {W : World} {s xs : Nm}
theorem On.step (h : On p d N F W) (hN : N < 999000) (hs : s.length ≤ maxLen) (nd : FuncId) (dc : Array Value)
    (hen : ∀ w, (callFunc nd (#[.pointer (some ⟨d, 0, none⟩), .string (str s)] ++ dc)).run Tryz.prog w = .ok (.enter nd (#[.pointer (some ⟨d, 0, none⟩), .string (str s)] ++ dc)) w) (f : Ent → List Ent)
    (hdo : ∀ (x : Dk) (e : Ent) (fl : Fl) (W1 : World), x.d = d → F = x.ft → x.n ≤ N → DiskAt x.tick W1 → Sees x p → Fine x → getE p.L s = some e → x.fs s = some fl → fl.bs = e.bs → fl.syn = e.syn → Chg x.ft x.ft W W1 →
      Calls Tryz.prog nd (#[.pointer (some ⟨d, 0, none⟩), .string (str s)] ++ dc) W1 fun e' W' => e' = .returned (.tuple #[]) ∧ Left { p.tick with L := f e } d (N + 1) F W W') :
    Calls Tryz.prog 65 #[.pointer (some ⟨d, 0, none⟩), .string (str s), .func (.func nd) #[] dc] W fun e W' => ∃ r, e = .returned (.int .i64 r) ∧ (r = (p.change s f).1 ∧ Left (p.change s f).2 d (N + 1) F W W') := by
  obtain ⟨hp, x, rfl, rfl, h1, h2, h3⟩ := h
  have hF := h3.fine hp (by omega)
  refine change_all h1 hF hs nd dc hen (fun r W' => r = (p.change s f).1 ∧ Left (p.change s f).2 x.d (N + 1) x.ft W W') ?_ ?_ ?_ ?_
  · intro hd W' q1 q2
    unfold Pd.change
    rw [if_pos (h3.dead.symm.trans hd)]
    exact ⟨rfl, _, ⟨hp, x, rfl, rfl, q1, by omega, h3⟩, q2⟩
  · intro hd ha W' q1 q2
    unfold Pd.change
    rw [if_neg (by rw [← h3.dead, hd]; decide), if_pos (h3.after.symm.trans ha)]
    exact ⟨rfl, _, ⟨hp.die, { x with dead := true }, rfl, rfl, q1, by show x.n ≤ _; omega, h3.die⟩, q2⟩
  · intro hd ha hf W' q1 q2
    unfold Pd.change
    rw [if_neg (by rw [← h3.dead, hd]; decide), if_neg (by rw [← h3.after]; exact ha), h3.gone hf]
    exact ⟨rfl, _, ⟨hp.tick, x.tick, rfl, rfl, q1, by show x.n ≤ _; omega, h3.tick⟩, q2⟩
  · intro hd ha fl hf W1 q1 q2
    obtain ⟨e, k1, k2, k3⟩ := h3.there hf
    unfold Pd.change
    rw [if_neg (by rw [← h3.dead, hd]; decide), if_neg (by rw [← h3.after]; exact ha), k1]
    refine (hdo x e fl W1 rfl rfl h2 q1 h3 hF k1 hf k2 k3 q2).mono ?_
    rintro e2 W2 ⟨rfl, q⟩
    exact ⟨rfl, rfl, q⟩
theorem Pd.Ok.putS (h : p.Ok) {e : Ent} (hg : getE p.L s = some e) (n : Nat) (hn : n ≤ e.bs.length) : usedE (putE p.L ⟨s, e.bs, n⟩) = usedE p.L ∧ ({ p.tick with L := putE p.L ⟨s, e.bs, n⟩ } : Pd).Ok := by
  have hu : usedE (putE p.L ⟨s, e.bs, n⟩) = usedE p.L := by
    have := usedE_put h.up ⟨s, e.bs, n⟩
    simp only [hg, lenE] at this
    omega
  refine ⟨hu, h.up.put _, by rw [hu]; exact h.used, h.room, h.tick.after, fun f hf => ?_⟩
  rcases mem_put hf with rfl | hf
  · exact hn
  · exact h.syn f hf
theorem On.sync (h : On p d N F W) (hN : N < 999000) (hs : s.length ≤ maxLen) :
    Calls Tryz.prog 58 #[.pointer (some ⟨d, 0, none⟩), .string (str s)] W fun e W' => e = .returned (.int .i64 (p.sync s).1) ∧ Left (p.sync s).2 d (N + 1) F W W' := by
  refine (sync_of _ d s (h.step hN hs _ _ (enter_secure _ _) (fun e => putE p.L ⟨s, e.bs, e.bs.length⟩) ?_)).mono ?_
  · rintro x e fl W1 rfl rfl hn q1 h3 hF k1 hf k2 k3 q2
    refine (secure_c q1 hf hs).mono ?_
    rintro e2 W2 ⟨rfl, r1, r2⟩
    have hk := h.ok.putS k1 e.bs.length (Nat.le_refl _)
    refine ⟨rfl, _, ⟨hk.2, x.tick.syn s fl, rfl, rfl, r1, by show x.n ≤ _; omega, ⟨h3.room, by show x.used = _; rw [hk.1]; exact h3.used, h3.tick.after, h3.torn, h3.dead, fun t => ?_⟩⟩, q2.trans r2⟩
    show (updF x.fs s _ t).map _ = (getE (putE _ _) t).map _
    rw [getE_put]
    by_cases et : t = s
    · rw [et, updF_same, if_pos rfl]; simp [k2]
    · rw [updF_other _ _ et, if_neg et]; exact h3.fs t
  · rintro e W2 ⟨r, rfl, rfl, q⟩
    exact ⟨rfl, q⟩
theorem Pd.Ok.dropS (h : p.Ok) {e : Ent} (hg : getE p.L s = some e) : ({ p.tick with L := dropE p.L s } : Pd).Ok := by
  have hu := usedE_drop hg
  exact ⟨h.up.drop s, by have := h.used; show usedE (dropE _ _) ≤ p.room; omega, h.room, h.tick.after, fun f hf => h.syn f (mem_drop hf)⟩
theorem On.delete (h : On p d N F W) (hN : N < 999000) (hs : s.length ≤ maxLen) :
    Calls Tryz.prog 43 #[.pointer (some ⟨d, 0, none⟩), .string (str s)] W fun e W' => e = .returned (.int .i64 (p.delete s).1) ∧ Left (p.delete s).2 d (N + 1) F W W' := by
  refine (delete_of _ d s (h.step hN hs _ _ (enter_remove _ _) (fun e => dropE p.L s) ?_)).mono ?_
  · rintro x e fl W1 rfl rfl hn q1 h3 hF k1 hf k2 k3 q2
    have hl := usedE_le k1
    have hu1 := h.ok.used
    have hu2 := h.ok.room
    refine (remove_c q1 hf hs (by rw [k2]; omega) ⟨by have := hF.used; show (-1000000000000 : Int) ≤ x.used; omega, by have := hF.used; show x.used ≤ (1000000000000 : Int); omega⟩).mono ?_
    rintro e2 W2 ⟨rfl, r1, r2⟩
    refine ⟨rfl, _, ⟨h.ok.dropS k1, x.tick.rem s fl, rfl, rfl, r1, by show x.n ≤ _; omega, ⟨h3.room, ?_, h3.tick.after, h3.torn, h3.dead, fun t => ?_⟩⟩, q2.trans r2⟩
    · have hd := usedE_drop k1
      show x.used - (fl.bs.length : Int) = (usedE (dropE p.L s) : Int)
      rw [h3.used, k2]; omega
    · show (updF x.fs s none t).map _ = (getE (dropE _ _) t).map _
      rw [getE_drop h.ok.up]
      by_cases et : t = s
      · rw [et, updF_same, if_pos rfl]; rfl
      · rw [updF_other _ _ et, if_neg et]; exact h3.fs t
  · rintro e W2 ⟨r, rfl, rfl, q⟩
    exact ⟨rfl, q⟩
theorem mv_used (h : p.Ok) {e : Ent} (hg : getE p.L s = some e) (t : Nm) : usedE (putE (dropE p.L s) ⟨t, e.bs, e.syn⟩) + lenE (getE (dropE p.L s) t) = usedE p.L := by
  have h1 := usedE_put (h.up.drop s) ⟨t, e.bs, e.syn⟩
  have h2 := usedE_drop hg
  simp only at h1
  omega
theorem Pd.Ok.mv (h : p.Ok) {e : Ent} (hg : getE p.L s = some e) (t : Nm) : ({ p.tick with L := putE (dropE p.L s) ⟨t, e.bs, e.syn⟩ } : Pd).Ok := by
  have hu := mv_used h hg t
  refine ⟨(h.up.drop s).put _, by have := h.used; show usedE (putE _ _) ≤ p.room; omega, h.room, h.tick.after, fun f hf => ?_⟩
  rcases mem_put hf with rfl | hf
  · exact h.syn e (getE_mem hg).1
  · exact h.syn f (mem_drop hf)
theorem On.rename (h : On p d N F W) (hN : N < 999000) {t : Nm} (hs : s.length ≤ maxLen) (ht : t.length ≤ maxLen) :
    Calls Tryz.prog 71 #[.pointer (some ⟨d, 0, none⟩), .string (str s), .string (str t)] W fun e W' => e = .returned (.int .i64 (p.rename s t).1) ∧ Left (p.rename s t).2 d (N + 1) F W W' := by
  have ha : On p d N F (W.alloc (.cells #[.string (str t)] 9)) := by
    obtain ⟨hp, x, rfl, rfl, h1, h2, h3⟩ := h
    exact ⟨hp, x, rfl, rfl, h1.alloc _, h2, h3⟩
  have hfr : ¬ F W.heap.size := by
    obtain ⟨hp, x, rfl, rfl, h1, h2, h3⟩ := h
    intro hf
    have := h1.lt hf
    omega
  refine (rename_of _ d s t (ha.step hN hs _ _ (enter_rename _ _ _) (fun e => putE (dropE p.L s) ⟨t, e.bs, e.syn⟩) ?_)).mono ?_
  · rintro x e fl W1 rfl rfl hn q1 h3 hF k1 hf k2 k3 q2
    have hcell : W1.cell? ⟨W.heap.size, 0, none⟩ = some (.string (str t)) := cell_of ((q2.block _ (by simp) hfr).trans (heap_alloc_new _ _)) 0
    have hmu := mv_used h.ok k1 t
    have hview : ∀ u, (updF (updF x.fs s none) t (some fl) u).map (fun f => (f.bs, f.syn)) = (getE (putE (dropE p.L s) ⟨t, e.bs, e.syn⟩) u).map (fun e => (e.bs, e.syn)) := fun u => by
      rw [getE_put, getE_drop h.ok.up]
      by_cases eu : u = t
      · rw [eu, updF_same, if_pos rfl]; simp [k2, k3]
      · rw [updF_other _ _ eu, if_neg eu]
        by_cases es : u = s
        · rw [es, updF_same, if_pos rfl]; rfl
        · rw [updF_other _ _ es, if_neg es]; exact h3.fs u
    cases hg : updF x.fs s none t with
    | none =>
      have hz : getE (dropE p.L s) t = none := by
        rw [getE_drop h.ok.up]
        by_cases et : t = s
        · rw [if_pos et]
        · rw [if_neg et]; rw [updF_other _ _ et] at hg; exact h3.gone hg
      rw [hz] at hmu
      refine (ren1_new q1 hf hg hs ht (show x.n < _ by omega) hcell).mono ?_
      rintro e2 W2 ⟨rfl, r1, r2⟩
      exact ⟨rfl, _, ⟨h.ok.mv k1 t, x.tick.mv0 s t fl, rfl, rfl, r1, by show x.n + 1 ≤ _; omega, ⟨h3.room, by show x.used = ((usedE (putE _ _) : Nat) : Int); rw [h3.used, ← hmu]; rfl, h3.tick.after, h3.torn, h3.dead, hview⟩⟩, q2.trans r2⟩
    | some g =>
      have et : t ≠ s := by rintro rfl; rw [updF_same] at hg; cases hg
      rw [updF_other _ _ et] at hg
      obtain ⟨ge, g1, g2, g3⟩ := h3.there hg
      have hz : getE (dropE p.L s) t = some ge := by rw [getE_drop h.ok.up, if_neg et]; exact g1
      rw [hz] at hmu
      have hl := usedE_le g1
      have hu1 := h.ok.used
      have hu2 := h.ok.room
      refine (ren1_c q1 et hf hg hs ht (by rw [g2]; omega) ⟨by have := hF.used; show (-1000000000000 : Int) ≤ x.used; omega, by have := hF.used; show x.used ≤ (1000000000000 : Int); omega⟩ (show x.n < _ by omega) hcell).mono ?_
      rintro e2 W2 ⟨rfl, r1, r2⟩
      exact ⟨rfl, _, ⟨h.ok.mv k1 t, x.tick.mv s t fl g, rfl, rfl, r1, by show x.n + 1 ≤ _; omega, ⟨h3.room, by show x.used - (g.bs.length : Int) = ((usedE (putE _ _) : Nat) : Int); rw [h3.used, ← hmu, g2]; simp only [lenE]; omega, h3.tick.after, h3.torn, h3.dead, hview⟩⟩, q2.trans r2⟩
  · rintro e W2 ⟨r, rfl, rfl, F', q1, q2⟩
    exact ⟨rfl, F', q1, (Chg.of_below ((Below.refl _ _).alloc (Nat.le_refl _) _)).trans q2⟩
theorem On.read (h : On p d N F W) (hs : s.length ≤ maxLen) :
    Calls Tryz.prog 31 #[.pointer (some ⟨d, 0, none⟩), .string (str s)] W fun e W' => e = .returned (readV (getE p.L s)) ∧ W' = W := by
  obtain ⟨hp, x, rfl, rfl, h1, h2, h3⟩ := h
  refine (read_c h1 hs).mono ?_
  rintro e W2 ⟨rfl, rfl⟩
  refine ⟨?_, rfl⟩
  cases hf : x.fs s with
  | none => rw [h3.gone hf]; rfl
  | some f => obtain ⟨e, k1, k2, k3⟩ := h3.there hf; rw [k1]; simp only [told, readV, k2]
theorem On.arm (h : On p d N F W) (after torn : Int) (ha : -9223372036854775808 ≤ after ∧ after ≤ 9223372036854775807) :
    Calls Tryz.prog 24 #[.pointer (some ⟨d, 0, none⟩), .int .i64 after, .int .i64 torn] W fun e W' => e = .returned (.tuple #[]) ∧ Left { p with after := after, torn := torn } d (N + 1) F W W' := by
  obtain ⟨hp, x, rfl, rfl, h1, h2, h3⟩ := h
  refine (arm_c h1 after torn).mono ?_
  rintro e W2 ⟨rfl, q1, q2⟩
  exact ⟨rfl, _, ⟨⟨hp.up, hp.used, hp.room, ha, hp.syn⟩, { x with after := after, torn := torn }, rfl, rfl, q1, by show x.n ≤ _; omega, ⟨h3.room, h3.used, rfl, rfl, h3.dead, h3.fs⟩⟩, q2⟩
theorem on_new (room : Nat) (hr : room ≤ 1048576) (W : World) :
    Calls Tryz.prog 5 #[.int .i64 (room : Nat)] W fun e W' => ∃ d, e = .returned (.tuple #[.pointer (some ⟨d, 0, none⟩), .int .i64 0]) ∧ Left (Pd.new room) d 0 (fun _ => False) W W' := by
  refine (new_c room hr W).mono ?_
  rintro e W2 ⟨d, m, rfl, q1, q2⟩
  exact ⟨d, rfl, _, ⟨⟨trivial, Nat.zero_le _, hr, ⟨by show _ ≤ (-1 : Int); omega, by show (-1 : Int) ≤ _; omega⟩, by intro e he; cases he⟩, Dk.new d m room, rfl, rfl, q1, Nat.le_refl _, ⟨rfl, rfl, rfl, rfl, rfl, fun s => rfl⟩⟩, q2⟩
end
end Go.Proofs.YtialfpkmcafkmaaGreat
