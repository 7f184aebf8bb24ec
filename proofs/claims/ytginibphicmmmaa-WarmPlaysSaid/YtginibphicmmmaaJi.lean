/- The newest change taken back. -/
import Derived.Test.YtginibphicmmmaaJh
import Derived.Shelf.Abstract
namespace Go.Proofs.Ytginibphicmmmaa
open Go.RowKit Go.Maps Go.Shelf Mp

/-- The newest change's closure was called; it stands yet. -/
structure MidAt (x : Sx) (b : Nat) (L : List Cg) (v : Value) (n : Nat) (W : World) : Prop where
  cell : W.heap[b]? = some (setO x (tot L))
  mw : MapFn kitP x.mw n (hasBy plOf L) W
  mm : MapFn kitS x.mm n (hasBy mdOf L) W
  mg : MapFn kitS x.mg n (hasBy gnOf L) W
  lrow : W.ownsRow 0 33 3 x.lv (logsOf L).length (logCells (logsOf L) x.ts)
  tops : Tops x.fix (logsOf L) x.ts
  brow : W.ownsRow 0 1 1 x.bv (L.length + 1) (x.vs.reverse ++ [v])
  clo : Clos x b L x.vs
  fix : ∀ p ∈ x.fix, W.heap[p.1]? = some p.2 ∧ ¬ x.mv b p.1
  wm : x.mw ≠ x.mm
  wg : x.mw ≠ x.mg
  mn : x.mm ≠ x.mg
  few : L.length + 1 ≤ n
  once : Once L
section
variable {x : Sx} {b n : Nat} {L : List Cg} {W V : World}
theorem Clos.pop {c : Cg} {vs : List Value} (h : Clos x b (c :: L) vs) : ∃ v vs', vs = v :: vs' ∧ Clo x b L c v ∧ Clos x b L vs' := by
  cases vs with
  | nil => exact h.elim
  | cons v vs' => exact ⟨v, vs', rfl, h.1, h.2⟩
theorem WAt.pop {c : Cg} (h : WAt x b (c :: L) n W) {v : Value} {vs' : List Value} (hv : x.vs = v :: vs') {lv' : Value} {ts' : List Value} (T : Chg (fun j => x.mv b j ∧ x.bv.ownBlock ≠ some j) (fun j => x.mv b j ∧ x.bv.ownBlock ≠ some j) W V)
    (hcell : V.heap[b]? = some (setO ⟨x.mw, x.mm, x.mg, lv', ts', x.bv, vs', x.fix⟩ (tot L))) (hmw : MapFn kitP x.mw n (hasBy plOf L) V) (hmm : MapFn kitS x.mm n (hasBy mdOf L) V) (hmg : MapFn kitS x.mg n (hasBy gnOf L) V)
    (hlrow : V.ownsRow 0 33 3 lv' (logsOf L).length (logCells (logsOf L) ts')) (htops : Tops x.fix (logsOf L) ts') (hlv : ∀ k, lv'.ownBlock = some k → x.lv.ownBlock = some k) :
    MidAt ⟨x.mw, x.mm, x.mg, lv', ts', x.bv, vs', x.fix⟩ b L v n V ∧ Chg (x.ft b) (Sx.ft ⟨x.mw, x.mm, x.mg, lv', ts', x.bv, vs', x.fix⟩ b) W V := by
  have hmv : ∀ k, Sx.mv ⟨x.mw, x.mm, x.mg, lv', ts', x.bv, vs', x.fix⟩ b k → x.mv b k := fun k hk => by
    rcases hk with e | e | e | e | e | e
    · exact Or.inl e
    · exact Or.inr (Or.inl e)
    · exact Or.inr (Or.inr (Or.inl e))
    · exact Or.inr (Or.inr (Or.inr (Or.inl e)))
    · exact Or.inr (Or.inr (Or.inr (Or.inr (Or.inl (hlv _ e)))))
    · exact Or.inr (Or.inr (Or.inr (Or.inr (Or.inr e))))
  have hb := h.brow
  have hcl := h.clo
  rw [hv] at hb hcl
  rw [List.reverse_cons] at hb
  refine ⟨⟨hcell, hmw, hmm, hmg, hlrow, htops, own_keep hb fun k hk => T.block k (h.brow_lt hk) fun e => e.2 hk, Clos.more (x := x) (y := ⟨x.mw, x.mm, x.mg, lv', ts', x.bv, vs', x.fix⟩) ⟨rfl, rfl, rfl, fun _ hz => hz⟩ hcl.2, fun p hp => ⟨(T.block p.1 (lt_of (h.fix p hp).1) fun e => (h.fix p hp).2 e.1).trans (h.fix p hp).1, fun e => (h.fix p hp).2 (hmv _ e)⟩, h.wm, h.wg, h.mn, h.few, h.once.2.2.2⟩,
    T.os, T.tape, T.output, T.size, fun k hk hn => T.block k hk fun e => hn (Or.inl e.1), fun k hk => Or.inl ?_⟩
  rcases hk with e | e
  · exact Or.inl (hmv k e)
  · exact Or.inr e
/-- What a closure does that is the newest. -/
def Undoes (x : Sx) (b n : Nat) (L : List Cg) (W : World) (g : Nat) (ba ca : Array Value) : Prop :=
  (∀ args w, (callFunc g args).run Try.prog w = .ok (.enter g args) w) ∧ Calls Try.prog g (ba ++ ca) W fun e V => e = .returned (.tuple #[]) ∧ ∃ lv' ts' vs', x.vs = .func (.func g) ba ca :: vs' ∧ MidAt ⟨x.mw, x.mm, x.mg, lv', ts', x.bv, vs', x.fix⟩ b L (.func (.func g) ba ca) n V ∧ Chg (x.ft b) (Sx.ft ⟨x.mw, x.mm, x.mg, lv', ts', x.bv, vs', x.fix⟩ b) W V
theorem chg_wide {F G : Nat → Prop} (h : Chg F F W V) (hF : ∀ k, F k → G k) : Chg G G W V := ⟨h.os, h.tape, h.output, h.size, fun k h1 h2 => h.block k h1 fun e => h2 (hF k e), fun _ hk => Or.inl hk⟩
theorem logs_le : ∀ (L : List Cg), (logsOf L).length ≤ L.length
  | [] => Nat.le_refl _
  | .log l :: L => by have := logs_le L; simp [logsOf]; omega
  | .addr _ :: L => by have := logs_le L; simp [logsOf]; omega
  | .slot _ _ :: L => by have := logs_le L; simp [logsOf]; omega
  | .made _ :: L => by have := logs_le L; simp [logsOf]; omega
  | .refund _ :: L => by have := logs_le L; simp [logsOf]; omega
  | .gone _ :: L => by have := logs_le L; simp [logsOf]; omega
theorem logCells_len : ∀ {ls : List LogP} {ts : List Value}, ts.length = ls.length → (logCells ls ts).length = ls.length * 3
  | [], [], _ => rfl
  | l :: ls, t :: ts, h => by
    have := logCells_len (ls := ls) (ts := ts) (by simpa using h)
    unfold logCells at this ⊢
    simp only [List.zipWith_cons_cons, List.flatten_cons, List.length_append, this, logE, List.length_cons, List.length_nil]
    omega
  | [], _ :: _, h => by simp at h
  | _ :: _, [], h => by simp at h
theorem logCells_snoc {l : LogP} {t : Value} : ∀ {ls : List LogP} {ts : List Value}, ts.length = ls.length → logCells (ls ++ [l]) (ts ++ [t]) = logCells ls ts ++ logE l t
  | [], [], _ => by simp [logCells]
  | _ :: ls, _ :: ts, h => by
    have := logCells_snoc (l := l) (t := t) (ls := ls) (ts := ts) (by simpa using h)
    unfold logCells at this ⊢
    simp only [List.cons_append, List.zipWith_cons_cons, List.flatten_cons, this, List.append_assoc]
  | [], _ :: _, h => by simp at h
  | _ :: _, [], h => by simp at h
theorem logCells_take {l : LogP} {ls : List LogP} {ts : List Value} (h : ts.length = ls.length + 1) : (logCells (ls ++ [l]) ts).take (ls.length * 3) = logCells ls (ts.take ls.length) := by
  obtain ⟨t, ht⟩ : ∃ t, ts = ts.take ls.length ++ [t] := by
    have h1 := List.take_append_drop ls.length ts
    have h2 : (ts.drop ls.length).length = 1 := by rw [List.length_drop]; omega
    obtain ⟨t, e⟩ := List.length_eq_one_iff.1 h2
    exact ⟨t, by rw [← e]; exact h1.symm⟩
  have h3 : (ts.take ls.length).length = ls.length := by rw [List.length_take]; omega
  have e := logCells_snoc (l := l) (t := t) h3
  rw [← ht] at e
  rw [e, List.take_left' (logCells_len h3)]
theorem undo_top {c : Cg} (h : WAt x b (c :: L) n W) (hn : n < 1000000000) : ∃ g ba ca, (∃ vs', x.vs = .func (.func g) ba ca :: vs') ∧ (ba = #[] ∨ ca = #[]) ∧ Undoes x b n L W g ba ca := by
  obtain ⟨v, vs', hv, hc, hcs⟩ := Clos.pop h.clo
  have hone := h.once
  have pP : ∀ (p : Pl), plOf c = some p → mdOf c = none → gnOf c = none → tot (c :: L) = tot L → logsOf (c :: L) = logsOf L → CloP x.fix x.mw p v → ∃ g ba ca, (∃ vs', x.vs = .func (.func g) ba ca :: vs') ∧ (ba = #[] ∨ ca = #[]) ∧ Undoes x b n L W g ba ca := fun p e1 e2 e3 e4 e5 hcl => by
    obtain ⟨q1, q2, rfl, h1, h2, hp⟩ := hcl
    refine ⟨_, _, _, ⟨vs', hv⟩, Or.inl rfl, enters_of Try.func54 (by kernel_rfl) rfl, ?_⟩
    rw [show (#[] : Array Value) ++ #[ptr q1, ptr q2] = #[ptr q1, ptr q2] from rfl]
    refine (undoP_c h.mw hp (h.fix _ h1).1 (h.fix _ h2).1).mono ?_
    rintro e V ⟨rfl, hm, hch⟩
    have hcw : Chg (fun j => x.mv b j ∧ x.bv.ownBlock ≠ some j) (fun j => x.mv b j ∧ x.bv.ownBlock ≠ some j) W V := chg_wide hch fun k hk => ⟨Or.inr (Or.inl hk), fun e => (h.bv_ne e).2.1 hk⟩
    rw [hasBy_undo e1 (hone.1 p e1)] at hm
    have hmm := h.mm
    have hmg := h.mg
    have hlr := h.lrow
    have htp := h.tops
    have hce := h.cell
    rw [hasBy_none e2] at hmm
    rw [hasBy_none e3] at hmg
    rw [e5] at hlr htp
    rw [e4] at hce
    have P := h.pop hv hcw (lv' := x.lv) (ts' := x.ts) ((hch.block b (lt_of hce) h.b_ne.1).trans hce) hm (hmm.keep (hch.block _ hmm.lt (Ne.symm h.wm))) (hmg.keep (hch.block _ hmg.lt (Ne.symm h.wg))) (own_keep hlr fun k hk => hch.block k (h.lrow_lt hk) (h.lv_ne hk).2.1) htp (fun _ hk => hk)
    exact ⟨rfl, _, _, _, hv, P.1, P.2⟩
  have pM : ∀ (a : Nm), plOf c = none → mdOf c = some a → gnOf c = none → tot (c :: L) = tot L → logsOf (c :: L) = logsOf L → CloS x.fix x.mm a v → ∃ g ba ca, (∃ vs', x.vs = .func (.func g) ba ca :: vs') ∧ (ba = #[] ∨ ca = #[]) ∧ Undoes x b n L W g ba ca := fun p e1 e2 e3 e4 e5 hcl => by
    obtain ⟨q1, q2, rfl, h1, h2, hp⟩ := hcl
    refine ⟨_, _, _, ⟨vs', hv⟩, Or.inl rfl, enters_of Try.func57 (by kernel_rfl) rfl, ?_⟩
    rw [show (#[] : Array Value) ++ #[ptr q1, ptr q2] = #[ptr q1, ptr q2] from rfl]
    refine (undoS_c h.mm hp (h.fix _ h1).1 (h.fix _ h2).1).mono ?_
    rintro e V ⟨rfl, hm, hch⟩
    have hcw : Chg (fun j => x.mv b j ∧ x.bv.ownBlock ≠ some j) (fun j => x.mv b j ∧ x.bv.ownBlock ≠ some j) W V := chg_wide hch fun k hk => ⟨Or.inr (Or.inr (Or.inl hk)), fun e => (h.bv_ne e).2.2.1 hk⟩
    rw [hasBy_undo e2 (hone.2.1 p e2)] at hm
    have hmm := h.mw
    have hmg := h.mg
    have hlr := h.lrow
    have htp := h.tops
    have hce := h.cell
    rw [hasBy_none e1] at hmm
    rw [hasBy_none e3] at hmg
    rw [e5] at hlr htp
    rw [e4] at hce
    have P := h.pop hv hcw (lv' := x.lv) (ts' := x.ts) ((hch.block b (lt_of hce) h.b_ne.2.1).trans hce) (hmm.keep (hch.block _ hmm.lt h.wm)) hm (hmg.keep (hch.block _ hmg.lt (Ne.symm h.mn))) (own_keep hlr fun k hk => hch.block k (h.lrow_lt hk) (h.lv_ne hk).2.2.1) htp (fun _ hk => hk)
    exact ⟨rfl, _, _, _, hv, P.1, P.2⟩
  have pG : ∀ (a : Nm), plOf c = none → mdOf c = none → gnOf c = some a → tot (c :: L) = tot L → logsOf (c :: L) = logsOf L → CloS x.fix x.mg a v → ∃ g ba ca, (∃ vs', x.vs = .func (.func g) ba ca :: vs') ∧ (ba = #[] ∨ ca = #[]) ∧ Undoes x b n L W g ba ca := fun p e1 e2 e3 e4 e5 hcl => by
    obtain ⟨q1, q2, rfl, h1, h2, hp⟩ := hcl
    refine ⟨_, _, _, ⟨vs', hv⟩, Or.inl rfl, enters_of Try.func57 (by kernel_rfl) rfl, ?_⟩
    rw [show (#[] : Array Value) ++ #[ptr q1, ptr q2] = #[ptr q1, ptr q2] from rfl]
    refine (undoS_c h.mg hp (h.fix _ h1).1 (h.fix _ h2).1).mono ?_
    rintro e V ⟨rfl, hm, hch⟩
    have hcw : Chg (fun j => x.mv b j ∧ x.bv.ownBlock ≠ some j) (fun j => x.mv b j ∧ x.bv.ownBlock ≠ some j) W V := chg_wide hch fun k hk => ⟨Or.inr (Or.inr (Or.inr (Or.inl hk))), fun e => (h.bv_ne e).2.2.2.1 hk⟩
    rw [hasBy_undo e3 (hone.2.2.1 p e3)] at hm
    have hmm := h.mw
    have hmg := h.mm
    have hlr := h.lrow
    have htp := h.tops
    have hce := h.cell
    rw [hasBy_none e1] at hmm
    rw [hasBy_none e2] at hmg
    rw [e5] at hlr htp
    rw [e4] at hce
    have P := h.pop hv hcw (lv' := x.lv) (ts' := x.ts) ((hch.block b (lt_of hce) h.b_ne.2.2).trans hce) (hmm.keep (hch.block _ hmm.lt h.wg)) (hmg.keep (hch.block _ hmg.lt h.mn)) hm (own_keep hlr fun k hk => hch.block k (h.lrow_lt hk) (h.lv_ne hk).2.2.2.1) htp (fun _ hk => hk)
    exact ⟨rfl, _, _, _, hv, P.1, P.2⟩
  cases c with
  | addr a => exact pP _ rfl rfl rfl rfl rfl hc
  | slot a k => exact pP _ rfl rfl rfl rfl rfl hc
  | made a => exact pM _ rfl rfl rfl rfl rfl hc
  | gone a => exact pG _ rfl rfl rfl rfl rfl hc
  | refund k =>
    obtain ⟨q1, q2, rfl, h1, h2⟩ := hc
    refine ⟨_, _, _, ⟨vs', hv⟩, Or.inl rfl, enters_of Try.func44 (by kernel_rfl) rfl, ?_⟩
    rw [show (#[] : Array Value) ++ #[ptr q1, ptr q2] = #[ptr q1, ptr q2] from rfl]
    refine (undoR_c h.cell (h.fix _ h1).1 (h.fix _ h2).1).mono ?_
    rintro e V ⟨rfl, hm, hch⟩
    have hcw : Chg (fun j => x.mv b j ∧ x.bv.ownBlock ≠ some j) (fun j => x.mv b j ∧ x.bv.ownBlock ≠ some j) W V := chg_wide hch fun k hk => ⟨Or.inl hk, fun e => (h.bv_ne e).1 hk⟩
    have hmw := h.mw
    have hmm := h.mm
    have hmg := h.mg
    rw [hasBy_none rfl] at hmw hmm hmg
    have P := h.pop hv hcw (lv' := x.lv) (ts' := x.ts) hm (hmw.keep (hch.block _ hmw.lt (Ne.symm h.b_ne.1))) (hmm.keep (hch.block _ hmm.lt (Ne.symm h.b_ne.2.1))) (hmg.keep (hch.block _ hmg.lt (Ne.symm h.b_ne.2.2))) (own_keep h.lrow fun k hk => hch.block k (h.lrow_lt hk) (h.lv_ne hk).1) h.tops (fun _ hk => hk)
    exact ⟨rfl, _, _, _, hv, P.1, P.2⟩
  | log l =>
    have hc : v = .func (.func 46) #[ptr b] #[] := hc
    subst hc
    refine ⟨_, _, _, ⟨vs', hv⟩, Or.inr rfl, enters_of Try.func46 (by kernel_rfl) rfl, ?_⟩
    rw [show #[ptr b] ++ (#[] : Array Value) = #[ptr b] from rfl]
    have hlr := h.lrow
    have htp := h.tops
    have el : logsOf (.log l :: L) = logsOf L ++ [l] := rfl
    rw [el] at hlr htp
    have elen : (logsOf L ++ [l]).length = (logsOf L).length + 1 := by simp
    rw [elen] at hlr
    have hfl : (logsOf L).length ≤ L.length := logs_le L
    refine (unlog_c h.cell hlr (by have := h.few; simp at this; omega)).mono ?_
    rintro e V ⟨rfl, lv', hm, hrow, hown, hch⟩
    have hcw : Chg (fun j => x.mv b j ∧ x.bv.ownBlock ≠ some j) (fun j => x.mv b j ∧ x.bv.ownBlock ≠ some j) W V := chg_wide hch fun k hk => by
      rcases hk with hk | hk
      · exact ⟨Or.inl hk, fun e => (h.bv_ne e).1 hk⟩
      · exact ⟨Or.inr (Or.inr (Or.inr (Or.inr (Or.inl hk)))), (h.lv_ne hk).2.2.2.2⟩
    have hmw := h.mw
    have hmm := h.mm
    have hmg := h.mg
    rw [hasBy_none rfl] at hmw hmm hmg
    have hne : ∀ k, k = x.mw ∨ k = x.mm ∨ k = x.mg → ¬ (k = b ∨ x.lv.ownBlock = some k) := fun k hk e => by
      rcases e with e | e
      · rcases hk with h1 | h1 | h1
        · exact h.b_ne.1 (e ▸ h1)
        · exact h.b_ne.2.1 (e ▸ h1)
        · exact h.b_ne.2.2 (e ▸ h1)
      · rcases hk with h1 | h1 | h1
        · exact (h.lv_ne e).2.1 h1
        · exact (h.lv_ne e).2.2.1 h1
        · exact (h.lv_ne e).2.2.2.1 h1
    have htl : x.ts.length = (logsOf L).length + 1 := by rw [htp.len]; simp
    have P := h.pop hv hcw (lv' := lv') (ts' := x.ts.take (logsOf L).length) hm (hmw.keep (hch.block _ hmw.lt (hne _ (Or.inl rfl)))) (hmm.keep (hch.block _ hmm.lt (hne _ (Or.inr (Or.inl rfl))))) (hmg.keep (hch.block _ hmg.lt (hne _ (Or.inr (Or.inr rfl)))))
      (by rw [← logCells_take htl]; exact hrow) (by have := Tops.take (logsOf L).length htp; rwa [List.take_left] at this) (fun k hk => by rw [← hown]; exact hk)
    exact ⟨rfl, _, _, _, hv, P.1, P.2⟩
end
end Go.Proofs.Ytginibphicmmmaa
