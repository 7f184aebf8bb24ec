/- A set amid a law's own boxes, and something else beside it that the law owns. -/
import Derived.Test.YtginibphicmmmaaJo
namespace Go.Proofs.Ytginibphicmmmaa
open Go.RowKit Go.Maps Go.Shelf Mp

structure Sj (x : Sx) (L : List Cg) (b n : Nat) (J : World → Prop) (gt : Nat → Prop) (B : List (Nat × Obj)) (W V : World) : Prop where
  an : An (WAt x b L n) (x.ft b) W (fun _ => False) B V
  ob : Ob J gt V
  off : ∀ k, gt k → ¬ x.ft b k ∧ W.heap.size ≤ k
  box : ∀ p ∈ B, ¬ gt p.1
/-- .. what else is owned: J, whose blocks are gt. -/
def StJ (L : List Cg) (b n : Nat) (J : World → Prop) (gt : Nat → Prop) (B : List (Nat × Obj)) (W V : World) : Prop := ∃ x, Sj x L b n J gt B W V
section
variable {b n n' : Nat} {L L' : List Cg} {J J' : World → Prop} {gt gt' : Nat → Prop} {B : List (Nat × Obj)} {W V V' : World} {a : Nm} {k : Wq}
theorem St.with (h : St L b n B W V) : StJ L b n (fun _ => True) (fun _ => False) B W V := by
  obtain ⟨x, M⟩ := h
  exact ⟨x, M, ⟨trivial, fun _ h => h.elim, fun _ _ => trivial⟩, fun _ h => h.elim, fun _ _ h => h⟩
theorem StJ.step {x : Sx} (M : Sj x L b n J gt B W V) (h : Step x b L' n' V V') : StJ L' b n' J gt B W V' := by
  obtain ⟨x', h1, h2, _⟩ := h
  refine ⟨x', M.an.step h1.ob h2, M.ob.kept fun k hk => h2.block k (M.ob.lt k hk) (M.off k hk).1, fun k hk => ⟨fun e => ?_, (M.off k hk).2⟩, M.box⟩
  rcases h2.new k e with e | e
  · exact (M.off k hk).1 e
  · have := M.ob.lt k hk; omega
theorem StJ.call (h : StJ L b n J gt B W V) (hb : Below V.heap.size V V') : StJ L b n J gt B W V' := by
  obtain ⟨x, M⟩ := h
  exact ⟨x, M.an.call hb, M.ob.below hb, M.off, M.box⟩
theorem StJ.drew (h : StJ L b n J gt B W V) : StJ L b n J gt B W V.drew := h.call (Below.refl _ V).drew
theorem StJ.alloc (h : StJ L b n J gt B W V) (o : Obj) : StJ L b n J gt ((V.heap.size, o) :: B) W (V.alloc o) := by
  obtain ⟨x, M⟩ := h
  refine ⟨x, M.an.alloc o, M.ob.below ((Below.refl _ _).alloc (Nat.le_refl _) _), M.off, fun p hp => ?_⟩
  rcases List.mem_cons.1 hp with rfl | hp
  · exact fun e => by have := M.ob.lt _ e; simp at this
  · exact M.box p hp
theorem StJ.sub {B' : List (Nat × Obj)} (h : StJ L b n J gt B W V) (hs : ∀ z ∈ B', z ∈ B) : StJ L b n J gt B' W V := by
  obtain ⟨x, M⟩ := h
  exact ⟨x, M.an.sub hs, M.ob, M.off, fun p hp => M.box p (hs p hp)⟩
theorem StJ.at (h : StJ L b n J gt B W V) {q : Nat} {o : Obj} (hm : (q, o) ∈ B) : V.heap[q]? = some o := by
  obtain ⟨x, M⟩ := h
  exact M.an.at hm
theorem StJ.below (h : StJ L b n J gt B W V) : Below W.heap.size W V := by
  obtain ⟨x, M⟩ := h
  exact M.an.chg.below
theorem StJ.it (h : StJ L b n J gt B W V) : J V := by
  obtain ⟨x, M⟩ := h
  exact M.ob.it
theorem StJ.obj (h : StJ L b n J gt B W V) : Ob J gt V := by
  obtain ⟨x, M⟩ := h
  exact M.ob
theorem StJ.offB (h : StJ L b n J gt B W V) : ∀ p ∈ B, ¬ gt p.1 := by
  obtain ⟨x, M⟩ := h
  exact M.box
theorem StJ.mono (h : StJ L b n J gt B W V) (hn : n ≤ n') : StJ L b n' J gt B W V := by
  obtain ⟨x, M⟩ := h
  exact ⟨x, ⟨(M.an.ob.it.mono hn).ob, M.an.chg, M.an.box⟩, M.ob, M.off, M.box⟩
theorem StJ.put {q : Nat} {o o' : Obj} (h : StJ L b n J gt ((q, o) :: B) W V) (hc : Chg (fun k => k = q) (fun k => k = q) V V') (ho : V'.heap[q]? = some o') (hL : ∀ x ∈ B, x.1 ≠ q) : StJ L b n J gt ((q, o') :: B) W V' := by
  obtain ⟨x, M⟩ := h
  have hq : ¬ gt q := M.box (q, o) (List.mem_cons_self ..)
  refine ⟨x, M.an.put hc ho hL, M.ob.kept fun k hk => hc.block k (M.ob.lt k hk) fun e => hq (by rw [← e]; exact hk), M.off, fun p hp => ?_⟩
  rcases List.mem_cons.1 hp with rfl | hp
  · exact hq
  · exact M.box p (List.mem_cons_of_mem _ hp)
/-- What else is owned is turned. -/
theorem StJ.own (h : StJ L b n J gt B W V) (hc : Chg gt gt' V V') (ho : Ob J' gt' V') : StJ L b n J' gt' B W V' := by
  obtain ⟨x, M⟩ := h
  have hoff : ∀ k, x.ft b k → ¬ gt k := fun k hk e => (M.off k e).1 hk
  have hlt : ∀ k, x.ft b k → k < V.heap.size := M.an.ob.lt
  have hbx : ∀ p ∈ B, V'.heap[p.1]? = V.heap[p.1]? := fun p hp => hc.block p.1 (lt_of (M.an.box p hp).1) (M.box p hp)
  refine ⟨x, ⟨M.an.ob.kept fun k hk => hc.block k (hlt k hk) (hoff k hk), ⟨hc.os.trans M.an.chg.os, hc.tape.trans M.an.chg.tape, hc.output.trans M.an.chg.output, Nat.le_trans M.an.chg.size hc.size, fun k hk _ => (hc.block k (Nat.lt_of_lt_of_le hk M.an.chg.size) fun e => by have := (M.off k e).2; omega).trans (M.an.chg.block k hk fun e => e), M.an.chg.new⟩, fun p hp => ⟨(hbx p hp).trans (M.an.box p hp).1, (M.an.box p hp).2⟩⟩, ho, fun k hk => ?_, fun p hp e => ?_⟩
  · rcases hc.new k hk with e | e
    · exact M.off k e
    · exact ⟨fun e2 => by have := hlt k e2; omega, Nat.le_trans M.an.chg.size e⟩
  · rcases hc.new _ e with e | e
    · exact M.box p hp e
    · have := lt_of (M.an.box p hp).1; omega
theorem StJ.addr (h : StJ L b n J gt B W V) (hn : n < 1000000000) (ha : a.length ≤ big) : Calls Try.prog 20 #[ptr b, .string (str a)] V fun e V' => e = .returned (.bool (hasBy plOf L ⟨a, true, Wq.zero⟩).isSome) ∧ StJ (noteBy plOf (.addr a) ⟨a, true, Wq.zero⟩ L) b (n + 1) J gt B W V' := by
  obtain ⟨x, M⟩ := h
  exact (addr_c M.an.ob.it hn ha).mono fun e V' h => ⟨h.1, StJ.step M h.2⟩
theorem StJ.slot (h : StJ L b n J gt B W V) (hn : n < 1000000000) (ha : a.length ≤ big) (hk : k.Ok) : Calls Try.prog 23 #[ptr b, .string (str a), .agg (wqC k)] V fun e V' => e = .returned (.bool (hasBy plOf L ⟨a, false, k⟩).isSome) ∧ StJ (noteBy plOf (.slot a k) ⟨a, false, k⟩ L) b (n + 1) J gt B W V' := by
  obtain ⟨x, M⟩ := h
  exact (slot_c M.an.ob.it hn ha hk).mono fun e V' h => ⟨h.1, StJ.step M h.2⟩
theorem StJ.made (h : StJ L b n J gt B W V) (hn : n < 1000000000) (ha : a.length ≤ big) : Calls Try.prog 28 #[ptr b, .string (str a)] V fun e V' => e = .returned (.bool (hasBy mdOf L a).isSome) ∧ StJ (noteBy mdOf (.made a) a L) b (n + 1) J gt B W V' := by
  obtain ⟨x, M⟩ := h
  exact (made_c M.an.ob.it hn ha).mono fun e V' h => ⟨h.1, StJ.step M h.2⟩
theorem StJ.gone (h : StJ L b n J gt B W V) (hn : n < 1000000000) (ha : a.length ≤ big) : Calls Try.prog 24 #[ptr b, .string (str a)] V fun e V' => e = .returned (.tuple #[]) ∧ StJ (noteBy gnOf (.gone a) a L) b (n + 1) J gt B W V' := by
  obtain ⟨x, M⟩ := h
  exact (gone_c M.an.ob.it hn ha).mono fun e V' h => ⟨h.1, StJ.step M h.2⟩
theorem StJ.refund (h : StJ L b n J gt B W V) (hn : n < 1000000000) (k : Int) : Calls Try.prog 21 #[ptr b, .int .i64 k] V fun e V' => e = .returned (.tuple #[]) ∧ StJ (.refund k :: L) b (n + 1) J gt B W V' := by
  obtain ⟨x, M⟩ := h
  exact (refund_c M.an.ob.it hn k).mono fun e V' h => ⟨h.1, StJ.step M h.2⟩
theorem StJ.hasAddr (h : StJ L b n J gt B W V) (ha : a.length ≤ big) : Calls Try.prog 27 #[ptr b, .string (str a)] V fun e V' => e = .returned (.bool (hasBy plOf L ⟨a, true, Wq.zero⟩).isSome) ∧ StJ L b n J gt B W V' ∧ Below V.heap.size V V' := by
  obtain ⟨x, M⟩ := h
  exact (hasAddr_c M.an.ob.it ha).mono fun e V' h => ⟨h.1, StJ.call ⟨x, M⟩ h.2, h.2⟩
theorem StJ.hasSlot (h : StJ L b n J gt B W V) (ha : a.length ≤ big) (hk : k.Ok) : Calls Try.prog 25 #[ptr b, .string (str a), .agg (wqC k)] V fun e V' => e = .returned (.bool (hasBy plOf L ⟨a, false, k⟩).isSome) ∧ StJ L b n J gt B W V' ∧ Below V.heap.size V V' := by
  obtain ⟨x, M⟩ := h
  exact (hasSlot_c M.an.ob.it ha hk).mono fun e V' h => ⟨h.1, StJ.call ⟨x, M⟩ h.2, h.2⟩
theorem StJ.total (h : StJ L b n J gt B W V) : Calls Try.prog 16 #[ptr b] V fun e V' => e = .returned (.int .i64 (tot L)) ∧ V' = V := by
  obtain ⟨x, M⟩ := h
  exact total_c M.an.ob.it
theorem StJ.mark (h : StJ L b n J gt B W V) : Calls Try.prog 18 #[ptr b] V fun e V' => e = .returned (.int .i64 (L.length : Nat)) ∧ V' = V := by
  obtain ⟨x, M⟩ := h
  exact mark_c M.an.ob.it
theorem StJ.back (h : StJ L b n J gt B W V) (hn : n < 1000000000) (m : Nat) (hm : m ≤ L.length) : Calls Try.prog 26 #[ptr b, .int .i64 (m : Nat)] V fun e V' => e = .returned (.bool true) ∧ StJ (L.drop (L.length - m)) b n J gt B W V' := by
  obtain ⟨x, M⟩ := h
  exact (back_c M.an.ob.it hn m hm).mono fun e V' h => ⟨h.1, StJ.step M h.2⟩
theorem StJ.backNo (h : StJ L b n J gt B W V) (m : Int) (hm : m < 0 ∨ (L.length : Int) < m) : Calls Try.prog 26 #[ptr b, .int .i64 m] V fun e V' => e = .returned (.bool false) ∧ V' = V := by
  obtain ⟨x, M⟩ := h
  exact back_no M.an.ob.it m hm
theorem StJ.leaving (h : StJ L b n J gt B W V) (hn : n < 1000000000) : Calls Try.prog 11 #[ptr b] V fun e V' => ∃ v, e = .returned v ∧ V'.ownsRow V.heap.size 9 1 v (leavP L).length ((leavP L).map fun s => .string (str s)) ∧ Below V.heap.size V V' ∧ StJ L b n J gt B W V' := by
  obtain ⟨x, M⟩ := h
  exact (leaving_c M.an.ob.it hn).mono fun e V' ⟨v, h1, h2, h3⟩ => ⟨v, h1, h2, h3, StJ.call ⟨x, M⟩ h3⟩
end
/-- A row that a law owns. -/
theorem row_ob {V : World} {B z : Nat} {e : TypeId} {v : Value} {n : Nat} {xs : List Value} (h : V.ownsRow B e z v n xs) : Ob (fun V => V.ownsRow B e z v n xs) (fun k => v.ownBlock = some k) V :=
  ⟨h, fun k hk => (World.ownsRow.lt h k hk).2, fun _ hV => own_keep h hV⟩
end Go.Proofs.Ytginibphicmmmaa
