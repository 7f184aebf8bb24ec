/- The set and the reference beside each other. -/
import Derived.Test.YtginibphicmmmaaJzm
namespace Go.Proofs.Ytginibphicmmmaa
open Go.RowKit Go.Maps Go.Shelf Mp
theorem any_has {L : List Cg} {K : Type} [DecidableEq K] {g : Cg → Option K} {k : K} {f : Cg → Bool} (h : ∀ c, f c = true ↔ g c = some k) : L.reverse.any f = (hasBy g L k).isSome := by
  rw [Bool.eq_iff_iff, hasBy_mem, List.any_eq_true]
  exact ⟨fun ⟨c, h1, h2⟩ => ⟨c, List.mem_reverse.1 h1, (h c).1 h2⟩, fun ⟨c, h1, h2⟩ => ⟨c, List.mem_reverse.2 h1, (h c).2 h2⟩⟩
theorem is_addr (a : Nm) (c : Cg) : Cg.is 1 a Wq.zero c = true ↔ plOf c = some ⟨a, true, Wq.zero⟩ := by cases c <;> simp [Cg.is, Cg.kind, Cg.adr, Cg.key, plOf] <;> first | exact decide_eq_true_iff | exact and_congr decide_eq_true_iff decide_eq_true_iff
theorem is_slot (a : Nm) (k : Wq) (c : Cg) : Cg.is 2 a k c = true ↔ plOf c = some ⟨a, false, k⟩ := by cases c <;> simp [Cg.is, Cg.kind, Cg.adr, Cg.key, plOf] <;> first | exact decide_eq_true_iff | exact and_congr decide_eq_true_iff decide_eq_true_iff
theorem is_made (a : Nm) (c : Cg) : Cg.is 3 a Wq.zero c = true ↔ mdOf c = some a := by cases c <;> simp [Cg.is, Cg.kind, Cg.adr, Cg.key, mdOf] <;> first | exact decide_eq_true_iff | exact and_congr decide_eq_true_iff decide_eq_true_iff
theorem is_gone (a : Nm) (c : Cg) : Cg.is 6 a Wq.zero c = true ↔ gnOf c = some a := by cases c <;> simp [Cg.is, Cg.kind, Cg.adr, Cg.key, gnOf] <;> first | exact decide_eq_true_iff | exact and_congr decide_eq_true_iff decide_eq_true_iff
theorem note_rev {L : List Cg} {K : Type} [DecidableEq K] {g : Cg → Option K} {k : K} {f : Cg → Bool} {c : Cg} (h : ∀ c, f c = true ↔ g c = some k) : (noteBy g c k L).reverse = if L.reverse.any f then L.reverse else L.reverse ++ [c] := by
  rw [any_has h]
  unfold noteBy
  split <;> simp
theorem back_rev {L : List Cg} {m : Nat} (hm : m ≤ L.length) : (L.drop (L.length - m)).reverse = L.reverse.take m := by
  rw [List.reverse_drop]
  congr 1
  omega
/-- The set holds L (the newest first), the reference M (the oldest first). -/
def Tw (L M : List Cg) (b e n : Nat) (B : List (Nat × Obj)) (W V : World) : Prop := ∃ rv ts fx, StJ L b n (RAt e rv ts fx M) (rF e rv fx) B W V
section
variable {b e n n' : Nat} {L L' M M' : List Cg} {B : List (Nat × Obj)} {W V V' : World} {a : Nm} {k : Wq}
theorem Tw.call (h : Tw L M b e n B W V) (hb : Below V.heap.size V V') : Tw L M b e n B W V' := by
  obtain ⟨rv, ts, fx, h⟩ := h
  exact ⟨rv, ts, fx, h.call hb⟩
theorem Tw.alloc (h : Tw L M b e n B W V) (o : Obj) : Tw L M b e n ((V.heap.size, o) :: B) W (V.alloc o) := by
  obtain ⟨rv, ts, fx, h⟩ := h
  exact ⟨rv, ts, fx, h.alloc o⟩
theorem Tw.at (h : Tw L M b e n B W V) {q : Nat} {o : Obj} (hm : (q, o) ∈ B) : V.heap[q]? = some o := by
  obtain ⟨rv, ts, fx, h⟩ := h
  exact h.at hm
theorem Tw.below (h : Tw L M b e n B W V) : Below W.heap.size W V := by
  obtain ⟨rv, ts, fx, h⟩ := h
  exact h.below
theorem Tw.sub {B' : List (Nat × Obj)} (h : Tw L M b e n B W V) (hs : ∀ z ∈ B', z ∈ B) : Tw L M b e n B' W V := by
  obtain ⟨rv, ts, fx, h⟩ := h
  exact ⟨rv, ts, fx, h.sub hs⟩
theorem Tw.mono (h : Tw L M b e n B W V) (hn : n ≤ n') : Tw L M b e n' B W V := by
  obtain ⟨rv, ts, fx, h⟩ := h
  exact ⟨rv, ts, fx, h.mono hn⟩
theorem Tw.step {rv : Value} {ts : List Value} {fx : List (Nat × Obj)} (h : StJ L b n (RAt e rv ts fx M) (rF e rv fx) B W V) (s : RStep e rv fx M' V V') : Tw L M' b e n B W V' := by
  obtain ⟨rv', ts', fx', h1, h2⟩ := s
  exact ⟨rv', ts', fx', h.own h2 h1.ob⟩
theorem Tw.xaddr (h : Tw L M b e n B W V) (hM : M.length < 900000) (a : Nm) : Calls Try.prog 30 #[ptr e, .string (str a)] V fun r V' => r = .returned (.bool (M.any (Cg.is 1 a Wq.zero))) ∧ Tw L (if M.any (Cg.is 1 a Wq.zero) then M else M ++ [.addr a]) b e n B W V' := by
  obtain ⟨rv, ts, fx, h⟩ := h
  exact (raddr_c h.it (by omega) a).mono fun r V' h2 => ⟨h2.1, Tw.step h h2.2⟩
theorem Tw.xslot (h : Tw L M b e n B W V) (hM : M.length < 900000) (a : Nm) (k : Wq) : Calls Try.prog 32 #[ptr e, .string (str a), .agg (wqC k)] V fun r V' => r = .returned (.bool (M.any (Cg.is 2 a k))) ∧ Tw L (if M.any (Cg.is 2 a k) then M else M ++ [.slot a k]) b e n B W V' := by
  obtain ⟨rv, ts, fx, h⟩ := h
  exact (rslot_c h.it (by omega) a k).mono fun r V' h2 => ⟨h2.1, Tw.step h h2.2⟩
theorem Tw.xmade (h : Tw L M b e n B W V) (hM : M.length < 900000) (a : Nm) : Calls Try.prog 33 #[ptr e, .string (str a)] V fun r V' => r = .returned (.bool (M.any (Cg.is 3 a Wq.zero))) ∧ Tw L (if M.any (Cg.is 3 a Wq.zero) then M else M ++ [.made a]) b e n B W V' := by
  obtain ⟨rv, ts, fx, h⟩ := h
  exact (rmade_c h.it (by omega) a).mono fun r V' h2 => ⟨h2.1, Tw.step h h2.2⟩
theorem Tw.xgone (h : Tw L M b e n B W V) (hM : M.length < 900000) (a : Nm) : Calls Try.prog 36 #[ptr e, .string (str a)] V fun r V' => r = .returned (.tuple #[]) ∧ Tw L (if M.any (Cg.is 6 a Wq.zero) then M else M ++ [.gone a]) b e n B W V' := by
  obtain ⟨rv, ts, fx, h⟩ := h
  exact (rgone_c h.it (by omega) a).mono fun r V' h2 => ⟨h2.1, Tw.step h h2.2⟩
theorem Tw.xhasAddr (h : Tw L M b e n B W V) (hM : M.length < 900000) (a : Nm) : Calls Try.prog 29 #[ptr e, .string (str a)] V fun r V' => r = .returned (.bool (M.any (Cg.is 1 a Wq.zero))) ∧ Tw L M b e n B W V' := by
  obtain ⟨rv, ts, fx, h⟩ := h
  exact (rhasaddr_c h.it (by omega) a).mono fun r V' h2 => ⟨h2.1, rv, ts, fx, h.call h2.2⟩
theorem Tw.xhasSlot (h : Tw L M b e n B W V) (hM : M.length < 900000) (a : Nm) (k : Wq) : Calls Try.prog 31 #[ptr e, .string (str a), .agg (wqC k)] V fun r V' => r = .returned (.bool (M.any (Cg.is 2 a k))) ∧ Tw L M b e n B W V' := by
  obtain ⟨rv, ts, fx, h⟩ := h
  exact (rhasslot_c h.it (by omega) a k).mono fun r V' h2 => ⟨h2.1, rv, ts, fx, h.call h2.2⟩
theorem Tw.xrefund (h : Tw L M b e n B W V) (hM : M.length < 900000) (m : Int) : Calls Try.prog 34 #[ptr e, .int .i64 m] V fun r V' => r = .returned (.tuple #[]) ∧ Tw L (M ++ [.refund m]) b e n B W V' := by
  obtain ⟨rv, ts, fx, h⟩ := h
  exact (rrefund_c h.it (by omega) m).mono fun r V' h2 => ⟨h2.1, Tw.step h h2.2⟩
theorem Tw.xlog (h : Tw L M b e n B W V) (hM : M.length < 900000) {l : LogP} {tv : Value} (hw : WordsAt V tv l.tops) (h32 : l.tops.length * 32 ≤ 140737488355328) : Calls Try.prog 35 #[ptr e, logV l tv] V fun r V' => r = .returned (.tuple #[]) ∧ Tw L (M ++ [.log l]) b e n B W V' := by
  obtain ⟨rv, ts, fx, h⟩ := h
  exact (rlog_c h.it (by omega) hw h32).mono fun r V' h2 => ⟨h2.1, Tw.step h h2.2⟩
theorem Tw.xback (h : Tw L M b e n B W V) (m : Int) : Calls Try.prog 37 #[ptr e, .int .i64 m] V fun r V' => ∃ f, (f = if 0 ≤ m ∧ m ≤ (M.length : Int) then true else false) ∧ r = .returned (.bool f) ∧ Tw L (if f then M.take m.toNat else M) b e n B W V' := by
  obtain ⟨rv, ts, fx, h⟩ := h
  exact (rback_c h.it m).mono fun r V' ⟨f, h1, h2, h3⟩ => ⟨f, h1, h2, Tw.step h h3⟩
theorem Tw.xtotal (h : Tw L M b e n B W V) (hM : M.length < 900000) : Calls Try.prog 17 #[ptr e] V fun r V' => r = .returned (.int .i64 (tot M.reverse)) ∧ Tw L M b e n B W V' := by
  obtain ⟨rv, ts, fx, h⟩ := h
  exact (rtotal_c h.it (by omega)).mono fun r V' h2 => ⟨h2.1, rv, ts, fx, h.call h2.2⟩
theorem Tw.xmark (h : Tw L M b e n B W V) : Calls Try.prog 19 #[ptr e] V fun r V' => r = .returned (.int .i64 (M.length : Nat)) ∧ V' = V := by
  obtain ⟨rv, ts, fx, h⟩ := h
  exact rmark_c h.it
theorem Tw.xlogs (h : Tw L M b e n B W V) (hM : M.length < 900000) : Calls Try.prog 15 #[ptr e] V fun r V' => ∃ pa c, r = .returned (.slice pa (logsOf M.reverse).length c) ∧ LogsAt V' (.slice pa (logsOf M.reverse).length c) (logsOf M.reverse) ∧ Tw L M b e n B W V' ∧ Below V.heap.size V V' := by
  obtain ⟨rv, ts, fx, h⟩ := h
  exact (rlogs_c h.it (by omega)).mono fun r V' ⟨pa, c, h1, h2, h3⟩ => ⟨pa, c, h1, h2, ⟨rv, ts, fx, h.call h3⟩, h3⟩
theorem Tw.xleaving (h : Tw L M b e n B W V) (hM : M.length < 900000) : Calls Try.prog 12 #[ptr e] V fun r V' => ∃ v, r = .returned v ∧ Pt V V' v (leavP M.reverse) ∧ Tw L M b e n B W V' := by
  obtain ⟨rv, ts, fx, h⟩ := h
  exact (rleaving_c h.it hM).mono fun r V' ⟨v, h1, h2⟩ => ⟨v, h1, leavO_leavP M ▸ h2, ⟨rv, ts, fx, h.call h2.below⟩⟩
end
end Go.Proofs.Ytginibphicmmmaa
