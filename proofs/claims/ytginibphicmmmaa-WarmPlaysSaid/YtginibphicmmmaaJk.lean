/- A set amid a law's own boxes; the chapter's examples. -/
import Derived.Test.YtginibphicmmmaaJj
namespace Go.Proofs.Ytginibphicmmmaa
open Go.RowKit Go.Maps Go.Shelf Mp

section
variable {x : Sx} {b n : Nat} {L : List Cg} {W V : World}
set_option maxRecDepth 100000 in
set_option maxHeartbeats 4000000 in
theorem back_no (h : WAt x b L n W) (m : Int) (hm : m < 0 ∨ (L.length : Int) < m) : Calls Try.prog 26 #[ptr b, .int .i64 m] W fun e W' => e = .returned (.bool false) ∧ W' = W := by
  have hc := h.cells.1.2.2.2.2.2
  obtain ⟨a0, c0, hv0⟩ := own_any h.brow
  rw [hv0] at hc
  obtain ⟨l, hl⟩ : ∃ l, l = L.length := ⟨_, rfl⟩
  rw [← hl] at hc hm
  unfold ptr at *
  clear h hv0 hl
  by_cases h0 : m < 0
  · clear hm
    go_enter Try.func26, Try.ntmps26
    go_wp2_with fail
    go_ret
    exact ⟨rfl, rfl⟩
  · have h1 : (l : Int) < m := hm.resolve_left h0
    clear hm
    go_enter Try.func26, Try.ntmps26
    go_wp2_with fail
    go_ret
    exact ⟨rfl, rfl⟩
end
/-- A set lies at b; boxes of the law's own; all else as it lay. -/
def St (L : List Cg) (b n : Nat) (B : List (Nat × Obj)) (W V : World) : Prop := ∃ x, An (WAt x b L n) (x.ft b) W (fun _ => False) B V
section
variable {b n n' : Nat} {L L' : List Cg} {B : List (Nat × Obj)} {W V V' : World} {a : Nm} {k : Wq}
theorem St.step {x : Sx} (M : An (WAt x b L n) (x.ft b) W (fun _ => False) B V) (h : Step x b L' n' V V') : St L' b n' B W V' := by
  obtain ⟨x', h1, h2, _⟩ := h
  exact ⟨x', M.step h1.ob h2⟩
theorem St.mono (h : St L b n B W V) (hn : n ≤ n') : St L b n' B W V := by
  obtain ⟨x, M⟩ := h
  exact ⟨x, (M.ob.it.mono hn).ob, M.chg, M.box⟩
theorem St.call (h : St L b n B W V) (hb : Below V.heap.size V V') : St L b n B W V' := by
  obtain ⟨x, M⟩ := h
  exact ⟨x, M.call hb⟩
theorem St.alloc (h : St L b n B W V) (o : Obj) : St L b n ((V.heap.size, o) :: B) W (V.alloc o) := by
  obtain ⟨x, M⟩ := h
  exact ⟨x, M.alloc o⟩
theorem St.sub {B' : List (Nat × Obj)} (h : St L b n B W V) (hs : ∀ z ∈ B', z ∈ B) : St L b n B' W V := by
  obtain ⟨x, M⟩ := h
  exact ⟨x, M.sub hs⟩
theorem St.at (h : St L b n B W V) {q : Nat} {o : Obj} (hm : (q, o) ∈ B) : V.heap[q]? = some o := by
  obtain ⟨x, M⟩ := h
  exact M.at hm
theorem St.below (h : St L b n B W V) : Below W.heap.size W V := by
  obtain ⟨x, M⟩ := h
  have c := M.chg
  exact ⟨c.os, c.tape, c.output, c.size, fun k hk => c.block k hk fun e => e⟩
theorem St.put {q : Nat} {o o' : Obj} (h : St L b n ((q, o) :: B) W V) (hc : Chg (fun k => k = q) (fun k => k = q) V V') (ho : V'.heap[q]? = some o') (hL : ∀ x ∈ B, x.1 ≠ q) : St L b n ((q, o') :: B) W V' := by
  obtain ⟨x, M⟩ := h
  exact ⟨x, M.put hc ho hL⟩
theorem St.addr (h : St L b n B W V) (hn : n < 1000000000) (ha : a.length ≤ big) : Calls Try.prog 20 #[ptr b, .string (str a)] V fun e V' => e = .returned (.bool (hasBy plOf L ⟨a, true, Wq.zero⟩).isSome) ∧ St (noteBy plOf (.addr a) ⟨a, true, Wq.zero⟩ L) b (n + 1) B W V' := by
  obtain ⟨x, M⟩ := h
  exact (addr_c M.ob.it hn ha).mono fun e V' h => ⟨h.1, St.step M h.2⟩
theorem St.slot (h : St L b n B W V) (hn : n < 1000000000) (ha : a.length ≤ big) (hk : k.Ok) : Calls Try.prog 23 #[ptr b, .string (str a), .agg (wqC k)] V fun e V' => e = .returned (.bool (hasBy plOf L ⟨a, false, k⟩).isSome) ∧ St (noteBy plOf (.slot a k) ⟨a, false, k⟩ L) b (n + 1) B W V' := by
  obtain ⟨x, M⟩ := h
  exact (slot_c M.ob.it hn ha hk).mono fun e V' h => ⟨h.1, St.step M h.2⟩
theorem St.made (h : St L b n B W V) (hn : n < 1000000000) (ha : a.length ≤ big) : Calls Try.prog 28 #[ptr b, .string (str a)] V fun e V' => e = .returned (.bool (hasBy mdOf L a).isSome) ∧ St (noteBy mdOf (.made a) a L) b (n + 1) B W V' := by
  obtain ⟨x, M⟩ := h
  exact (made_c M.ob.it hn ha).mono fun e V' h => ⟨h.1, St.step M h.2⟩
theorem St.gone (h : St L b n B W V) (hn : n < 1000000000) (ha : a.length ≤ big) : Calls Try.prog 24 #[ptr b, .string (str a)] V fun e V' => e = .returned (.tuple #[]) ∧ St (noteBy gnOf (.gone a) a L) b (n + 1) B W V' := by
  obtain ⟨x, M⟩ := h
  exact (gone_c M.ob.it hn ha).mono fun e V' h => ⟨h.1, St.step M h.2⟩
theorem St.refund (h : St L b n B W V) (hn : n < 1000000000) (k : Int) : Calls Try.prog 21 #[ptr b, .int .i64 k] V fun e V' => e = .returned (.tuple #[]) ∧ St (.refund k :: L) b (n + 1) B W V' := by
  obtain ⟨x, M⟩ := h
  exact (refund_c M.ob.it hn k).mono fun e V' h => ⟨h.1, St.step M h.2⟩
theorem St.hasAddr (h : St L b n B W V) (ha : a.length ≤ big) : Calls Try.prog 27 #[ptr b, .string (str a)] V fun e V' => e = .returned (.bool (hasBy plOf L ⟨a, true, Wq.zero⟩).isSome) ∧ St L b n B W V' := by
  obtain ⟨x, M⟩ := h
  exact (hasAddr_c M.ob.it ha).mono fun e V' h => ⟨h.1, x, M.call h.2⟩
theorem St.hasSlot (h : St L b n B W V) (ha : a.length ≤ big) (hk : k.Ok) : Calls Try.prog 25 #[ptr b, .string (str a), .agg (wqC k)] V fun e V' => e = .returned (.bool (hasBy plOf L ⟨a, false, k⟩).isSome) ∧ St L b n B W V' := by
  obtain ⟨x, M⟩ := h
  exact (hasSlot_c M.ob.it ha hk).mono fun e V' h => ⟨h.1, x, M.call h.2⟩
theorem St.total (h : St L b n B W V) : Calls Try.prog 16 #[ptr b] V fun e V' => e = .returned (.int .i64 (tot L)) ∧ V' = V := by
  obtain ⟨x, M⟩ := h
  exact total_c M.ob.it
theorem St.mark (h : St L b n B W V) : Calls Try.prog 18 #[ptr b] V fun e V' => e = .returned (.int .i64 (L.length : Nat)) ∧ V' = V := by
  obtain ⟨x, M⟩ := h
  exact mark_c M.ob.it
theorem St.back (h : St L b n B W V) (hn : n < 1000000000) (m : Nat) (hm : m ≤ L.length) : Calls Try.prog 26 #[ptr b, .int .i64 (m : Nat)] V fun e V' => e = .returned (.bool true) ∧ St (L.drop (L.length - m)) b n B W V' := by
  obtain ⟨x, M⟩ := h
  exact (back_c M.ob.it hn m hm).mono fun e V' h => ⟨h.1, St.step M h.2⟩
theorem St.backNo (h : St L b n B W V) (m : Int) (hm : m < 0 ∨ (L.length : Int) < m) : Calls Try.prog 26 #[ptr b, .int .i64 m] V fun e V' => e = .returned (.bool false) ∧ V' = V := by
  obtain ⟨x, M⟩ := h
  exact back_no M.ob.it m hm
/-- A set anew, amid boxes. -/
theorem St.new (hb : Below W.heap.size W V) (hB : ∀ x ∈ B, V.heap[x.1]? = some x.2 ∧ W.heap.size ≤ x.1) : Calls Try.prog 9 #[] V fun e V' => ∃ q, e = .returned (ptr q) ∧ St [] q 0 B W V' := by
  refine (new_c V).mono ?_
  rintro e V1 ⟨rfl, h1, h2⟩
  refine ⟨_, rfl, _, h1.ob, ⟨h2.os.trans hb.os, h2.tape.trans hb.tape, h2.output.trans hb.output, Nat.le_trans hb.size h2.size, fun k hk _ => (h2.block k (Nat.lt_of_lt_of_le hk hb.size)).trans (hb.block k hk), fun k hk => Or.inr ?_⟩, fun p hp => ?_⟩
  · have := hb.size
    rcases hk with (e | e | e | e | e | e) | ⟨o, ho⟩
    · omega
    · have e : k = V.heap.size := e; omega
    · have e : k = V.heap.size + 1 := e; omega
    · have e : k = V.heap.size + 2 := e; omega
    · cases e
    · cases e
    · cases ho
  · have h3 := hB p hp
    have h4 := lt_of h3.1
    refine ⟨(h2.block p.1 h4).trans h3.1, h3.2, fun hk => ?_⟩
    rcases hk with (e | e | e | e | e | e) | ⟨o, ho⟩
    · omega
    · have e : p.1 = V.heap.size := e; omega
    · have e : p.1 = V.heap.size + 1 := e; omega
    · have e : p.1 = V.heap.size + 2 := e; omega
    · cases e
    · cases e
    · cases ho
end
end Go.Proofs.Ytginibphicmmmaa
