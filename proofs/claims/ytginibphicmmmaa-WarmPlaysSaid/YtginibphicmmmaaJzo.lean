/- .. what the set does beside the reference. -/
import Derived.Test.YtginibphicmmmaaJzn
namespace Go.Proofs.Ytginibphicmmmaa
open Go.RowKit Go.Maps Go.Shelf Mp
section
variable {b e n : Nat} {L M : List Cg} {B : List (Nat × Obj)} {W V : World} {a : Nm} {k : Wq}
theorem Tw.saddr (h : Tw L M b e n B W V) (hn : n < 1000000000) (ha : a.length ≤ big) : Calls Try.prog 20 #[ptr b, .string (str a)] V fun r V' => r = .returned (.bool (hasBy plOf L ⟨a, true, Wq.zero⟩).isSome) ∧ Tw (noteBy plOf (.addr a) ⟨a, true, Wq.zero⟩ L) M b e (n + 1) B W V' := by
  obtain ⟨rv, ts, fx, h⟩ := h
  exact (h.addr hn ha).mono fun r V' h2 => ⟨h2.1, rv, ts, fx, h2.2⟩
theorem Tw.sslot (h : Tw L M b e n B W V) (hn : n < 1000000000) (ha : a.length ≤ big) (hk : k.Ok) : Calls Try.prog 23 #[ptr b, .string (str a), .agg (wqC k)] V fun r V' => r = .returned (.bool (hasBy plOf L ⟨a, false, k⟩).isSome) ∧ Tw (noteBy plOf (.slot a k) ⟨a, false, k⟩ L) M b e (n + 1) B W V' := by
  obtain ⟨rv, ts, fx, h⟩ := h
  exact (h.slot hn ha hk).mono fun r V' h2 => ⟨h2.1, rv, ts, fx, h2.2⟩
theorem Tw.smade (h : Tw L M b e n B W V) (hn : n < 1000000000) (ha : a.length ≤ big) : Calls Try.prog 28 #[ptr b, .string (str a)] V fun r V' => r = .returned (.bool (hasBy mdOf L a).isSome) ∧ Tw (noteBy mdOf (.made a) a L) M b e (n + 1) B W V' := by
  obtain ⟨rv, ts, fx, h⟩ := h
  exact (h.made hn ha).mono fun r V' h2 => ⟨h2.1, rv, ts, fx, h2.2⟩
theorem Tw.sgone (h : Tw L M b e n B W V) (hn : n < 1000000000) (ha : a.length ≤ big) : Calls Try.prog 24 #[ptr b, .string (str a)] V fun r V' => r = .returned (.tuple #[]) ∧ Tw (noteBy gnOf (.gone a) a L) M b e (n + 1) B W V' := by
  obtain ⟨rv, ts, fx, h⟩ := h
  exact (h.gone hn ha).mono fun r V' h2 => ⟨h2.1, rv, ts, fx, h2.2⟩
theorem Tw.srefund (h : Tw L M b e n B W V) (hn : n < 1000000000) (k : Int) : Calls Try.prog 21 #[ptr b, .int .i64 k] V fun r V' => r = .returned (.tuple #[]) ∧ Tw (.refund k :: L) M b e (n + 1) B W V' := by
  obtain ⟨rv, ts, fx, h⟩ := h
  exact (h.refund hn k).mono fun r V' h2 => ⟨h2.1, rv, ts, fx, h2.2⟩
theorem Tw.slog (h : Tw L M b e n B W V) (hn : n < 1000000000) {l : LogP} {tv : Value} (hw : WordsAt V tv l.tops) (ha : l.addr.length ≤ big) (hd : l.data.length ≤ big) (h32 : l.tops.length * 32 ≤ 140737488355328) : Calls Try.prog 22 #[ptr b, logV l tv] V fun r V' => r = .returned (.tuple #[]) ∧ Tw (.log l :: L) M b e (n + 1) B W V' := by
  obtain ⟨rv, ts, fx, h⟩ := h
  exact (h.log hn hw ha hd h32).mono fun r V' h2 => ⟨h2.1, rv, ts, fx, h2.2⟩
theorem Tw.shasAddr (h : Tw L M b e n B W V) (ha : a.length ≤ big) : Calls Try.prog 27 #[ptr b, .string (str a)] V fun r V' => r = .returned (.bool (hasBy plOf L ⟨a, true, Wq.zero⟩).isSome) ∧ Tw L M b e n B W V' := by
  obtain ⟨rv, ts, fx, h⟩ := h
  exact (h.hasAddr ha).mono fun r V' h2 => ⟨h2.1, rv, ts, fx, h2.2.1⟩
theorem Tw.shasSlot (h : Tw L M b e n B W V) (ha : a.length ≤ big) (hk : k.Ok) : Calls Try.prog 25 #[ptr b, .string (str a), .agg (wqC k)] V fun r V' => r = .returned (.bool (hasBy plOf L ⟨a, false, k⟩).isSome) ∧ Tw L M b e n B W V' := by
  obtain ⟨rv, ts, fx, h⟩ := h
  exact (h.hasSlot ha hk).mono fun r V' h2 => ⟨h2.1, rv, ts, fx, h2.2.1⟩
theorem Tw.sback (h : Tw L M b e n B W V) (hn : n < 1000000000) (m : Nat) (hm : m ≤ L.length) : Calls Try.prog 26 #[ptr b, .int .i64 (m : Nat)] V fun r V' => r = .returned (.bool true) ∧ Tw (L.drop (L.length - m)) M b e n B W V' := by
  obtain ⟨rv, ts, fx, h⟩ := h
  exact (h.back hn m hm).mono fun r V' h2 => ⟨h2.1, rv, ts, fx, h2.2⟩
theorem Tw.sbackNo (h : Tw L M b e n B W V) (m : Int) (hm : m < 0 ∨ (L.length : Int) < m) : Calls Try.prog 26 #[ptr b, .int .i64 m] V fun r V' => r = .returned (.bool false) ∧ Tw L M b e n B W V' := by
  obtain ⟨rv, ts, fx, h⟩ := h
  exact (h.backNo m hm).mono fun r V' h2 => ⟨h2.1, rv, ts, fx, h2.2 ▸ h⟩
theorem Tw.stotal (h : Tw L M b e n B W V) : Calls Try.prog 16 #[ptr b] V fun r V' => r = .returned (.int .i64 (tot L)) ∧ V' = V := by
  obtain ⟨rv, ts, fx, h⟩ := h
  exact h.total
theorem Tw.smark (h : Tw L M b e n B W V) : Calls Try.prog 18 #[ptr b] V fun r V' => r = .returned (.int .i64 (L.length : Nat)) ∧ V' = V := by
  obtain ⟨rv, ts, fx, h⟩ := h
  exact h.mark
theorem Tw.sleaving (h : Tw L M b e n B W V) (hn : n < 1000000000) : Calls Try.prog 11 #[ptr b] V fun r V' => ∃ v, r = .returned v ∧ Pt V V' v (leavP L) ∧ Tw L M b e n B W V' := by
  obtain ⟨rv, ts, fx, h⟩ := h
  exact (h.leaving hn).mono fun r V' ⟨v, h1, h2, h3, h4⟩ => ⟨v, h1, ⟨h2, h3⟩, rv, ts, fx, h4⟩
theorem Tw.slogs (h : Tw L M b e n B W V) (hn : n < 1000000000) (h32 : ∀ l ∈ logsOf L, l.tops.length * 32 ≤ 140737488355328) : Calls Try.prog 14 #[ptr b] V fun r V' => ∃ pa c, r = .returned (.slice pa (logsOf L).length c) ∧ LogsAt V' (.slice pa (logsOf L).length c) (logsOf L) ∧ Tw L M b e n B W V' ∧ Below V.heap.size V V' := by
  obtain ⟨rv, ts, fx, h⟩ := h
  exact (h.logs hn h32).mono fun r V' ⟨pa, c, h1, h2, h3, h4⟩ => ⟨pa, c, h1, h2, ⟨rv, ts, fx, h3⟩, h4⟩
end
end Go.Proofs.Ytginibphicmmmaa
