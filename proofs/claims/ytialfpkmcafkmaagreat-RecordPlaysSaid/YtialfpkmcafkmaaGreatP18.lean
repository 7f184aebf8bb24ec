/- Both disks side by side; a deed on both. -/
import Derived.Test.YtialfpkmcafkmaaGreatP17
import Derived.Test.YtialfpkmcafkmaaGreatQt
namespace Go.Proofs.YtialfpkmcafkmaaGreat
open Go.RowKit

/-- Both disks: the program's is q, the reference's is p; what lies in X is as in V0. -/
structure Tw (X : Nat → Prop) (V0 : World) (q p : Pd) (d N : Nat) (F : Nat → Prop) (b B : Nat) (v : Value) (V : World) : Prop where
  on : On q d N F V
  rk : Rk p b v B V
  ap : ∀ k, Rk.ft b v k → ¬ F k
  os : V.os = V0.os
  tape : V.tape = V0.tape
  output : V.output = V0.output
  ext : ∀ k, X k → k < V.heap.size ∧ ¬ F k ∧ ¬ Rk.ft b v k ∧ V.heap[k]? = V0.heap[k]?
section
variable {X : Nat → Prop} {V0 V V' : World} {q p : Pd} {d N : Nat} {F : Nat → Prop} {b B : Nat} {v : Value}
theorem Rk.lt (h : Rk p b v B V) {k : Nat} (hk : Rk.ft b v k) : k < V.heap.size ∧ B ≤ k := by
  rcases hk with rfl | hk
  · exact ⟨lt_of h.cell, h.ge⟩
  · exact ⟨(h.row.lt k hk).2, (h.row.lt k hk).1⟩
theorem Tw.size (h : Tw X V0 q p d N F b B v V) : B ≤ V.heap.size := Nat.le_trans h.rk.ge (Nat.le_of_lt (lt_of h.rk.cell))
theorem Tw.call (h : Tw X V0 q p d N F b B v V) (hb : Below V.heap.size V V') : Tw X V0 q p d N F b B v V' :=
  ⟨h.on.below hb, h.rk.below hb, h.ap, hb.os.trans h.os, hb.tape.trans h.tape, hb.output.trans h.output, fun k hk => by
    obtain ⟨h1, h2, h3, h4⟩ := h.ext k hk
    exact ⟨Nat.lt_of_lt_of_le h1 hb.size, h2, h3, (hb.block k h1).trans h4⟩⟩
/-- A call of the program's disk. -/
theorem Tw.left (h : Tw X V0 q p d N F b B v V) {q' : Pd} {N' : Nat} (hl : Left q' d N' F V V') : ∃ F', Tw X V0 q' p d N' F' b B v V' := by
  obtain ⟨F', h1, h2⟩ := hl
  refine ⟨F', h1, h.rk.chg h2 h.ap, fun k hk hf => ?_, h2.os.trans h.os, h2.tape.trans h.tape, h2.output.trans h.output, fun k hk => ?_⟩
  · rcases h2.new k hf with h3 | h3
    · exact h.ap k hk h3
    · have := (h.rk.lt hk).1; omega
  · obtain ⟨k1, k2, k3, k4⟩ := h.ext k hk
    refine ⟨Nat.lt_of_lt_of_le k1 h2.size, fun hf => ?_, k3, (h2.block k k1 k2).trans k4⟩
    rcases h2.new k hf with h3 | h3
    · exact k2 h3
    · omega
/-- A call of the reference's disk. -/
theorem Tw.right (h : Tw X V0 q p d N F b B v V) {p' : Pd} {v' : Value} (h1 : Rk p' b v' B V') (h2 : Chg (Rk.ft b v) (Rk.ft b v') V V') : Tw X V0 q p' d N F b B v' V' := by
  refine ⟨h.on.kept fun k hk => h2.block k (h.on.lt hk) (fun hf => h.ap k hf hk), h1, fun k hk hf => ?_, h2.os.trans h.os, h2.tape.trans h.tape, h2.output.trans h.output, fun k hk => ?_⟩
  · rcases h2.new k hk with h3 | h3
    · exact h.ap k h3 hf
    · have := h.on.lt hf; omega
  · obtain ⟨k1, k2, k3, k4⟩ := h.ext k hk
    refine ⟨Nat.lt_of_lt_of_le k1 h2.size, k2, fun hf => ?_, (h2.block k k1 k3).trans k4⟩
    rcases h2.new k hf with h3 | h3
    · exact k3 h3
    · omega
theorem Tw.mono (h : Tw X V0 q p d N F b B v V) {M : Nat} (hM : N ≤ M) : Tw X V0 q p d M F b B v V := ⟨h.on.mono hM, h.rk, h.ap, h.os, h.tape, h.output, h.ext⟩
/-- Fewer blocks, from an earlier world on. -/
theorem Tw.less (h : Tw X V0 q p d N F b B v V) {Y : Nat → Prop} {U : World} (hY : ∀ k, Y k → X k) (hU : ∀ k, Y k → V0.heap[k]? = U.heap[k]?) (h1 : V0.os = U.os) (h2 : V0.tape = U.tape) (h3 : V0.output = U.output) : Tw Y U q p d N F b B v V :=
  ⟨h.on, h.rk, h.ap, h.os.trans h1, h.tape.trans h2, h.output.trans h3, fun k hk => by
    obtain ⟨k1, k2, k3, k4⟩ := h.ext k (hY k hk)
    exact ⟨k1, k2, k3, k4.trans (hU k hk)⟩⟩
/-- A block just made, more. -/
theorem Tw.box (h : Tw X V0 q p d N F b B v V) (o : Obj) : Tw (fun k => X k ∨ k = V.heap.size) (V.alloc o) q p d N F b B v (V.alloc o) := by
  have hb : Below V.heap.size V (V.alloc o) := (Below.refl _ _).alloc (Nat.le_refl _) o
  have h' := h.call hb
  refine ⟨h'.on, h'.rk, h'.ap, rfl, rfl, rfl, fun k hk => ?_⟩
  rcases hk with hk | rfl
  · obtain ⟨k1, k2, k3, _⟩ := h'.ext k hk
    exact ⟨k1, k2, k3, rfl⟩
  · exact ⟨by simp, fun hf => by have := h.on.lt hf; omega, fun hf => by have := (h.rk.lt hf).1; omega, rfl⟩
end
/-- The three names. -/
def nm (a : Nat) : Nm := if a % 3 = 0 then [102] else if a % 3 = 1 then [103] else [102, 46, 110, 101, 119]
theorem nm_len (a : Nat) : (nm a).length ≤ 5 := by unfold nm; split; simp; split; simp; simp
set_option maxRecDepth 100000 in
theorem name_c (a : Nat) (ha : a < 256) (W : World) : Calls Tryz.prog 10 #[.int .u8 a] W fun e W' => e = .returned (.string (str (nm a))) ∧ Below W.heap.size W W' := by
  have hal : Below W.heap.size W (W.alloc (.cells #[.string ⟨#[102]⟩, .string ⟨#[103]⟩, .string ⟨#[102, 46, 110, 101, 119]⟩] 9)) := (Below.refl _ _).alloc (Nat.le_refl _) _
  have H := Lib.hid hal
  clear hal
  have h3 : a % 3 = 0 ∨ a % 3 = 1 ∨ a % 3 = 2 := by omega
  rcases h3 with h3 | h3 | h3
  · have hm : (a : Int) % 3 = 0 := by omega
    have hn : nm a = [102] := by unfold nm; rw [if_pos h3]
    have HN := Lib.hid hn
    clear h3 hn
    go_enter Tryz.func10, Tryz.ntmps10
    go_wp2_with fail
    go_ret
    exact ⟨by rw [HN.out]; rfl, H.out⟩
  · have hm : (a : Int) % 3 = 1 := by omega
    have hn : nm a = [103] := by unfold nm; rw [if_neg (by omega), if_pos h3]
    have HN := Lib.hid hn
    clear h3 hn
    go_enter Tryz.func10, Tryz.ntmps10
    go_wp2_with fail
    go_ret
    exact ⟨by rw [HN.out]; rfl, H.out⟩
  · have hm : (a : Int) % 3 = 2 := by omega
    have hn : nm a = [102, 46, 110, 101, 119] := by unfold nm; rw [if_neg (by omega), if_neg (by omega)]
    have HN := Lib.hid hn
    clear h3 hn
    go_enter Tryz.func10, Tryz.ntmps10
    go_wp2_with fail
    go_ret
    exact ⟨by rw [HN.out]; rfl, H.out⟩
def deedC (k a : Nat) (s : Nm) (n m : Int) : Array Value := #[.int .u8 k, .int .u8 a, .string (str s), .int .i64 n, .int .i64 m]
def DeedB (bx k a : Nat) (s : Nm) (n m : Int) (V : World) : Prop := V.heap[bx]? = some (.cells (deedC k a s n m) 34 (0, 0))
theorem DeedB.reads {bx k a : Nat} {s : Nm} {n m : Int} {V : World} (h : DeedB bx k a s n m V) : V.cell? ⟨bx, 0, none⟩ = some (.int .u8 k) ∧ V.cell? ⟨bx, 1, none⟩ = some (.int .u8 a) ∧ V.cell? ⟨bx, 2, none⟩ = some (.string (str s)) ∧ V.cell? ⟨bx, 3, none⟩ = some (.int .i64 n) ∧ V.cell? ⟨bx, 4, none⟩ = some (.int .i64 m) :=
  ⟨cell_of h 0, cell_of h 1, cell_of h 2, cell_of h 3, cell_of h 4⟩
/-- All names are short. -/
def Sh (p : Pd) : Prop := ∀ e ∈ p.L, e.name.length ≤ 9
section
variable {p : Pd} {s t xs : Nm}
theorem sh_put {L : List Ent} (h : ∀ e ∈ L, e.name.length ≤ 9) {e : Ent} (he : e.name.length ≤ 9) : ∀ f ∈ putE L e, f.name.length ≤ 9 := fun f hf => by
  rcases mem_put hf with rfl | hf
  · exact he
  · exact h f hf
theorem sh_drop {L : List Ent} (h : ∀ e ∈ L, e.name.length ≤ 9) (s : Nm) : ∀ f ∈ dropE L s, f.name.length ≤ 9 := fun f hf => h f (mem_drop hf)
theorem sh_append (h : Sh p) (hs : s.length ≤ 9) (xs : Nm) : Sh (p.append s xs).2 := by
  unfold Pd.append
  split
  · exact h
  · split
    · split
      · exact sh_put (e := ⟨s, _, _⟩) h hs
      · exact h
    · split
      · exact sh_put (e := ⟨s, _, _⟩) h hs
      · exact h
theorem sh_change {f : Ent → List Ent} (h : Sh p) (hf : ∀ e, ∀ g ∈ f e, g.name.length ≤ 9) : Sh (p.change s f).2 := by
  unfold Pd.change
  split
  · exact h
  · split
    · exact h
    · cases getE p.L s with
      | none => exact h
      | some e => exact hf e
theorem sh_sync (h : Sh p) (hs : s.length ≤ 9) : Sh (p.sync s).2 := sh_change h fun _ => sh_put (e := ⟨s, _, _⟩) h hs
theorem sh_delete (h : Sh p) (s : Nm) : Sh (p.delete s).2 := sh_change h fun _ => sh_drop h s
theorem sh_rename (h : Sh p) (s : Nm) (ht : t.length ≤ 9) : Sh (p.rename s t).2 := sh_change h fun _ => sh_put (e := ⟨t, _, _⟩) (sh_drop h s) ht
theorem sh_discard (h : Sh p) (s : Nm) : Sh (p.discard s).2 := by
  unfold Pd.discard
  split
  · exact h
  · exact sh_delete h s
theorem sh_run {fs : List (Pd → Int × Pd)} (hf : ∀ f ∈ fs, ∀ q, Sh q → Sh (f q).2) : ∀ {p : Pd}, Sh p → Sh (runP p fs).2 := by
  induction fs with
  | nil => intro p h; exact h
  | cons f r ih =>
    intro p h
    rw [runP]
    split
    · exact ih (fun g hg => hf g (by simp [hg])) (hf f (by simp) p h)
    · exact hf f (by simp) p h
theorem fresh_len {s : Nm} (h : s.length ≤ 5) : (fresh s).length ≤ 9 := by unfold fresh; rw [List.length_append]; simp; omega
theorem sh_add (h : Sh p) (hs : s.length ≤ 5) (xs : Nm) : Sh (p.add s xs).2 := by
  unfold Pd.add
  split
  · refine sh_run (fun f hf => ?_) h
    simp only [List.mem_cons, List.not_mem_nil, or_false] at hf
    rcases hf with rfl | rfl
    · exact fun q hq => sh_append hq (by omega) _
    · exact fun q hq => sh_sync hq (by omega)
  · exact h
theorem sh_exchange (h : Sh p) (hs : s.length ≤ 5) (xs : Nm) : Sh (p.exchange s xs).2 := by
  unfold Pd.exchange
  refine sh_run (fun f hf => ?_) h
  simp only [List.mem_cons, List.not_mem_nil, or_false] at hf
  rcases hf with rfl | rfl | rfl | rfl
  · exact fun q hq => sh_discard hq _
  · exact fun q hq => sh_append hq (fresh_len hs) _
  · exact fun q hq => sh_sync hq (fresh_len hs)
  · exact fun q hq => sh_rename hq _ (by omega)
theorem sh_replace (h : Sh p) (hs : s.length ≤ 5) (xs : Nm) : Sh (p.replace s xs).2 := by
  unfold Pd.replace
  split
  · exact sh_exchange h hs _
  · exact h
theorem sh_mend (h : Sh p) (hs : s.length ≤ 5) (g : Nm) : Sh (p.mendW s g).2 := by
  unfold Pd.mendW
  split
  · exact h
  · split
    · refine sh_run (fun f hf => ?_) h
      simp only [List.mem_cons, List.not_mem_nil, or_false] at hf
      rcases hf with rfl | rfl
      · exact fun q hq => sh_discard hq _
      · exact fun q hq => sh_delete hq _
    · exact sh_exchange h hs g
theorem sh_lost (h : Sh p) (keep : Int) : Sh (p.lost keep) := fun e he => by
  obtain ⟨f, hf, rfl⟩ := List.mem_map.1 (show e ∈ p.L.map (lostE keep) from he)
  exact h f hf
end
/-- What a deed leaves. -/
def DoesR (X : Nat → Prop) (V0 : World) (p : Pd) (N B : Nat) (e : Ending) (V : World) : Prop :=
  ∃ p' d' N' F' b' v', Gr 1 p p' ∧ (Sh p → Sh p') ∧ N' ≤ N + 5 ∧ e = .returned (.tuple #[.pointer (some ⟨d', 0, none⟩), .pointer (some ⟨b', 0, none⟩), .bool true]) ∧ Tw X V0 p' p' d' N' F' b' B v' V
theorem On.append_long {p : Pd} {d N : Nat} {F : Nat → Prop} {W : World} {s xs : Nm} (h : On p d N F W) (hN : N < 999000) (hu : ¬ usedE p.L + xs.length ≤ p.room) :
    Calls Tryz.prog 22 #[.pointer (some ⟨d, 0, none⟩), .string (str s), .string (str xs)] W fun e W' => e = .returned (.int .i64 (p.append s xs).1) ∧ Left (p.append s xs).2 d (N + 1) F W W' := by
  obtain ⟨hp, x, rfl, rfl, h1, h2, h3⟩ := h
  have hF := h3.fine hp (by omega)
  have hfit : (xs.length : Int) ≤ x.room - x.used ↔ usedE p.L + xs.length ≤ p.room := by rw [h3.room, h3.used]; omega
  unfold Pd.append
  cases hd : x.dead with
  | true =>
    rw [if_pos (h3.dead.symm.trans hd)]
    refine (append_dead h1 hd hF).mono ?_
    rintro e W2 ⟨rfl, q1, q2⟩
    exact ⟨rfl, _, ⟨hp, x, rfl, rfl, q1, by omega, h3⟩, q2⟩
  | false =>
    rw [if_neg (by rw [← h3.dead, hd]; decide)]
    by_cases ha : x.after = 0
    · rw [if_pos (h3.after.symm.trans ha), if_neg (fun h => hu h.1)]
      refine (append_crash_full h1 hd ha hF (fun h => hu (hfit.1 h))).mono ?_
      rintro e W2 ⟨rfl, q1, q2⟩
      exact ⟨rfl, _, ⟨hp.die, { x with dead := true }, rfl, rfl, q1, by show x.n ≤ _; omega, h3.die⟩, q2⟩
    · rw [if_neg (by rw [← h3.after]; exact ha), if_neg hu]
      refine (append_full h1 hd ha hF (fun h => hu (hfit.1 h))).mono ?_
      rintro e W2 ⟨rfl, q1, q2⟩
      exact ⟨rfl, _, ⟨hp.tick, x.tick, rfl, rfl, q1, by show x.n ≤ _; omega, h3.tick⟩, q2⟩
theorem On.append_any {p : Pd} {d N : Nat} {F : Nat → Prop} {W : World} {s xs : Nm} (h : On p d N F W) (hN : N < 999000) (hs : s.length ≤ maxLen) :
    Calls Tryz.prog 22 #[.pointer (some ⟨d, 0, none⟩), .string (str s), .string (str xs)] W fun e W' => e = .returned (.int .i64 (p.append s xs).1) ∧ Left (p.append s xs).2 d (N + 1) F W W' := by
  by_cases hu : usedE p.L + xs.length ≤ p.room
  · exact h.append hN hs (by have := h.ok.room; omega)
  · exact h.append_long hN hu
theorem pappend_any {p : Pd} {b B : Nat} {v : Value} {W : World} (h : Rk p b v B W) (hp : p.Ok) (s xs : Nm) (hx : xs.length ≤ 4000000000000000000) (hB : B ≤ W.heap.size) (hlen : p.L.length < 1000000) : Calls Tryz.prog 23 #[.pointer (some ⟨b, 0, none⟩), .string (str s), .string (str xs)] W fun e W' => Stp (p.append s xs) b B v W e W' := by
  by_cases hu : usedE p.L + xs.length ≤ p.room
  · exact pappend_c h hp s xs (by have := hp.room; omega) hB hlen
  · exact pappend_full h hp s xs hx (Or.inr hu)
end Go.Proofs.YtialfpkmcafkmaaGreat
