/- WarmBack, in plain words; calls that hand back lists. -/
import Derived.Test.YtginibphicmmmaaJw
import Derived.Test.YtginibphicmmmaaAmong
namespace Go.Proofs.Ytginibphicmmmaa
open Go.RowKit Go.Maps Go.Shelf Mp

section
variable {b n : Nat} {L : List Cg} {B : List (Nat × Obj)} {W V : World}
theorem St.log (h : St L b n B W V) (hn : n < 1000000000) {l : LogP} {tv : Value} (hw : WordsAt V tv l.tops) (ha : l.addr.length ≤ big) (hd : l.data.length ≤ big) (h32 : l.tops.length * 32 ≤ 140737488355328) :
    Calls Try.prog 22 #[ptr b, logV l tv] V fun e V' => e = .returned (.tuple #[]) ∧ St (.log l :: L) b (n + 1) B W V' := by
  obtain ⟨x, M⟩ := h
  exact (log_c M.ob.it hn hw ha hd h32).mono fun e V' h => ⟨h.1, St.step M h.2⟩
theorem St.logs (h : St L b n B W V) (hn : n < 1000000000) (h32 : ∀ l ∈ logsOf L, l.tops.length * 32 ≤ 140737488355328) :
    Calls Try.prog 14 #[ptr b] V fun e V' => ∃ pa c, e = .returned (.slice pa (logsOf L).length c) ∧ LogsAt V' (.slice pa (logsOf L).length c) (logsOf L) ∧ St L b n B W V' ∧ Below V.heap.size V V' := by
  obtain ⟨x, M⟩ := h
  refine (logs_c M.ob.it hn h32).mono ?_
  rintro e V' ⟨v, rfl, h1, h2⟩
  have h3 := h1
  obtain ⟨pa, c, rfl, _⟩ := h1
  exact ⟨pa, c, rfl, h3, ⟨x, M.call h2⟩, h2⟩
theorem St.leaving (h : St L b n B W V) (hn : n < 1000000000) : Calls Try.prog 11 #[ptr b] V fun e V' => ∃ pa c, e = .returned (.slice pa (leavP L).length c) ∧ St L b n B W V' := by
  obtain ⟨x, M⟩ := h
  refine (leaving_c M.ob.it hn).mono ?_
  rintro e V' ⟨v, rfl, h1, h2⟩
  obtain ⟨pa, c, rfl⟩ := own_any h1
  exact ⟨pa, c, rfl, x, M.call h2⟩
end
abbrev Fst : Nm := [102, 105, 114, 115, 116]
def La (l : LogP) (n : Int) : List Cg := [.log l, .refund n, .addr Fst]
def L1 (l : LogP) (n : Int) (a : Nm) : List Cg := if a = [] then La l n else .addr (Fst ++ a) :: La l n
def L5 (l g : LogP) (n m : Int) (a : Nm) (k : Wq) : List Cg := .gone a :: .log g :: .refund m :: .slot a k :: L1 l n a
section
variable (l g : LogP) (n m : Int) (a : Nm) (k : Wq)
theorem fst_nil (a : Nm) : (Fst ++ a = Fst) ↔ a = [] := by simp [Fst]
theorem la_addr : hasBy plOf (La l n) ⟨Fst ++ a, true, Wq.zero⟩ = if a = [] then some () else none := by
  unfold La
  rw [hasBy_none rfl, hasBy_none rfl, hasBy_some (k := (⟨Fst, true, Wq.zero⟩ : Pl)) rfl]
  by_cases e : a = []
  · rw [if_pos e, e, List.append_nil, upf_same]
  · rw [if_neg e, upf_other _ _ (fun h => e ((fst_nil a).1 (congrArg Pl.addr h))), hasBy_nil]
theorem la_first : hasBy plOf (La l n) ⟨Fst, true, Wq.zero⟩ = some () := by
  have := la_addr l n []
  rwa [List.append_nil, if_pos rfl] at this
theorem la_slot : hasBy plOf (La l n) ⟨a, false, k⟩ = none := by
  unfold La
  rw [hasBy_none rfl, hasBy_none rfl, hasBy_some (k := (⟨Fst, true, Wq.zero⟩ : Pl)) rfl, upf_other _ _ (fun h => by have := congrArg Pl.whole h; cases this), hasBy_nil]
theorem la_gone : hasBy gnOf (La l n) a = none := by
  unfold La
  rw [hasBy_none rfl, hasBy_none rfl, hasBy_none rfl, hasBy_nil]
theorem l1_note : noteBy plOf (.addr (Fst ++ a)) ⟨Fst ++ a, true, Wq.zero⟩ (La l n) = L1 l n a := by
  unfold noteBy L1
  rw [la_addr]
  by_cases e : a = [] <;> simp [e]
theorem l1_slot : hasBy plOf (L1 l n a) ⟨a, false, k⟩ = none := by
  unfold L1
  by_cases e : a = []
  · rw [if_pos e, la_slot]
  · rw [if_neg e, hasBy_some (k := (⟨Fst ++ a, true, Wq.zero⟩ : Pl)) rfl, upf_other _ _ (fun h => by have := congrArg Pl.whole h; cases this), la_slot]
theorem l1_gone : hasBy gnOf (L1 l n a) a = none := by
  unfold L1
  by_cases e : a = []
  · rw [if_pos e, la_gone]
  · rw [if_neg e, hasBy_none rfl, la_gone]
theorem l1_logs : logsOf (L1 l n a) = [l] := by unfold L1 La; by_cases e : a = [] <;> simp [e, logsOf]
theorem l1_tot : tot (L1 l n a) = tot (La l n) := by unfold L1; by_cases e : a = [] <;> simp [e, tot]
theorem l1_goneL : goneL (L1 l n a) = [] := by unfold L1 La goneL; by_cases e : a = [] <;> simp [e, gnOf]
theorem la_tot (hn : -9223372036854775808 ≤ n ∧ n ≤ 9223372036854775807) : tot (La l n) = n := by
  show wrap64 (0 + n) = n
  rw [Int.zero_add]; exact IntWalk.wrap64_in _ hn
theorem l5_note : noteBy gnOf (.gone a) a (.log g :: .refund m :: .slot a k :: L1 l n a) = L5 l g n m a k := by
  unfold noteBy
  rw [hasBy_none rfl, hasBy_none rfl, hasBy_none rfl, l1_gone]
  rfl
theorem l5_logs : logsOf (L5 l g n m a k) = [l, g] := by
  show logsOf (L1 l n a) ++ [g] = _
  rw [l1_logs]; rfl
theorem l5_leav : (leavP (L5 l g n m a k)).length = 1 := by
  rw [leavP_len]
  show (a :: goneL (L1 l n a)).length = 1
  rw [l1_goneL]; rfl
theorem l5_tot (hn : -9223372036854775808 ≤ n ∧ n ≤ 9223372036854775807) : tot (L5 l g n m a k) = wrap64 (n + m) := by
  show wrap64 (tot (L1 l n a) + m) = _
  rw [l1_tot, la_tot l n hn]
theorem l5_slot : hasBy plOf (L5 l g n m a k) ⟨a, false, k⟩ = some () := by
  unfold L5
  rw [hasBy_none rfl, hasBy_none rfl, hasBy_none rfl, hasBy_some (k := (⟨a, false, k⟩ : Pl)) rfl, upf_same]
theorem l5_back : (L5 l g n m a k).drop ((L5 l g n m a k).length - 3) = La l n := by
  unfold L5 L1
  by_cases e : a = []
  · simp [e, La]
  · simp [e, La]
theorem l5_len : 3 ≤ (L5 l g n m a k).length := by
  unfold L5; simp
theorem la_leav : (leavP (La l n)).length = 0 := by rw [leavP_len]; rfl
end
end Go.Proofs.Ytginibphicmmmaa
