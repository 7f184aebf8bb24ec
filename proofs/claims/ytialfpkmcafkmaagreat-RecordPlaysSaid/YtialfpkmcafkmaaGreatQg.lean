/- The disk's calls, as plain data has them. -/
import Derived.Test.YtialfpkmcafkmaaGreatQf
namespace Go.Proofs.YtialfpkmcafkmaaGreat
open Go.RowKit

/-- A disk as plain data. -/
structure Pd where
  L : List Ent
  room : Nat
  after : Int
  torn : Int
  dead : Bool
def Pd.tick (p : Pd) : Pd := { p with after := if 0 < p.after then p.after - 1 else p.after }
def Pd.die (p : Pd) : Pd := { p with dead := true }
def bsE : Option Ent → Nm
  | none => []
  | some e => e.bs
def synE : Option Ent → Nat
  | none => 0
  | some e => e.syn
theorem lenE_eq (o : Option Ent) : lenE o = (bsE o).length := by cases o <;> rfl
def Pd.app (p : Pd) (s xs : Nm) : Pd := { p with L := putE p.L ⟨s, bsE (getE p.L s) ++ xs, synE (getE p.L s)⟩ }
def Pd.append (p : Pd) (s xs : Nm) : Int × Pd :=
  if p.dead = true then (19, p)
  else if p.after = 0 then (19, if usedE p.L + xs.length ≤ p.room ∧ tornN p.torn xs.length ≠ 0 then p.die.app s (xs.take (tornN p.torn xs.length)) else p.die)
  else if usedE p.L + xs.length ≤ p.room then (0, p.tick.app s xs) else (5, p.tick)
/-- A step at a file that is there. -/
def Pd.change (p : Pd) (s : Nm) (f : Ent → List Ent) : Int × Pd :=
  if p.dead = true then (19, p) else if p.after = 0 then (19, p.die) else
  match getE p.L s with
  | none => (6, p.tick)
  | some e => (0, { p.tick with L := f e })
def Pd.sync (p : Pd) (s : Nm) : Int × Pd := p.change s fun e => putE p.L ⟨s, e.bs, e.bs.length⟩
def Pd.delete (p : Pd) (s : Nm) : Int × Pd := p.change s fun _ => dropE p.L s
def Pd.rename (p : Pd) (s t : Nm) : Int × Pd := p.change s fun e => putE (dropE p.L s) ⟨t, e.bs, e.syn⟩
def keptE (keep : Int) (e : Ent) : Nat := e.syn + tornN keep (e.bs.length - e.syn)
def lostE (keep : Int) (e : Ent) : Ent := ⟨e.name, e.bs.take (keptE keep e), keptE keep e⟩
def Pd.lost (p : Pd) (keep : Int) : Pd := ⟨p.L.map (lostE keep), p.room, -1, 0, false⟩
def Pd.new (room : Nat) : Pd := ⟨[], room, -1, 0, false⟩
def readV : Option Ent → Value
  | none => .tuple #[.string (str []), .bool false]
  | some e => .tuple #[.string (str e.bs), .bool true]
/-- What holds of each disk. -/
structure Pd.Ok (p : Pd) : Prop where
  up : Up p.L
  used : usedE p.L ≤ p.room
  room : p.room ≤ 1048576
  after : -9223372036854775808 ≤ p.after ∧ p.after ≤ 9223372036854775807
  syn : ∀ e ∈ p.L, e.syn ≤ e.bs.length
/-- The disk of the proof is that of plain data. -/
structure Sees (x : Dk) (p : Pd) : Prop where
  room : x.room = (p.room : Int)
  used : x.used = (usedE p.L : Int)
  after : x.after = p.after
  torn : x.torn = p.torn
  dead : x.dead = p.dead
  fs : ∀ s, (x.fs s).map (fun f => (f.bs, f.syn)) = (getE p.L s).map (fun e => (e.bs, e.syn))
structure On (p : Pd) (d N : Nat) (F : Nat → Prop) (W : World) : Prop where
  ok : p.Ok
  ex : ∃ x : Dk, x.d = d ∧ F = x.ft ∧ DiskAt x W ∧ x.n ≤ N ∧ Sees x p
section
variable {x : Dk} {p : Pd} {s xs : Nm}
theorem Sees.fine (h : Sees x p) (hp : p.Ok) (hn : x.n < 1000000) : Fine x :=
  ⟨⟨by rw [h.room]; omega, by have := hp.room; rw [h.room]; omega⟩, ⟨by rw [h.used]; omega, by have := hp.used; have := hp.room; rw [h.used]; omega⟩, by rw [h.after]; exact hp.after, hn⟩
theorem Sees.gone (h : Sees x p) (hs : x.fs s = none) : getE p.L s = none := by
  have := h.fs s
  rw [hs] at this
  cases hg : getE p.L s with
  | none => rfl
  | some e => rw [hg] at this; cases this
theorem Sees.there (h : Sees x p) {f : Fl} (hs : x.fs s = some f) : ∃ e, getE p.L s = some e ∧ f.bs = e.bs ∧ f.syn = e.syn := by
  have := h.fs s
  rw [hs] at this
  cases hg : getE p.L s with
  | none => rw [hg] at this; cases this
  | some e =>
    rw [hg] at this
    simp only [Option.map_some, Option.some.injEq, Prod.mk.injEq] at this
    exact ⟨e, rfl, this⟩
theorem Sees.bytes (h : Sees x p) (s : Nm) : bytesF (x.fs s) = bsE (getE p.L s) ∧ synF (x.fs s) = synE (getE p.L s) := by
  cases hs : x.fs s with
  | none => rw [h.gone hs]; exact ⟨rfl, rfl⟩
  | some f => obtain ⟨e, h1, h2, h3⟩ := h.there hs; rw [h1]; exact ⟨h2, h3⟩
theorem Sees.tick (h : Sees x p) : Sees x.tick p.tick := by
  refine ⟨h.room, h.used, ?_, h.torn, h.dead, h.fs⟩
  simp only [Dk.tick, Pd.tick, h.after]
theorem Sees.die (h : Sees x p) : Sees { x with dead := true } p.die := ⟨h.room, h.used, h.after, h.torn, rfl, h.fs⟩
theorem bs_le (hp : p.Ok) (s : Nm) : (bsE (getE p.L s)).length ≤ 1048576 := by
  rw [← lenE_eq]
  cases hg : getE p.L s with
  | none => simp [lenE]
  | some e => have := usedE_le hg; have := hp.used; have := hp.room; simp only [lenE]; omega
theorem used_app (hp : p.Ok) (s xs : Nm) : usedE (p.app s xs).L = usedE p.L + xs.length := by
  have := usedE_put hp.up ⟨s, bsE (getE p.L s) ++ xs, synE (getE p.L s)⟩
  simp only [List.length_append, lenE_eq] at this
  show usedE (putE _ _) = _
  omega
theorem syn_le (hp : p.Ok) (s : Nm) : synE (getE p.L s) ≤ (bsE (getE p.L s)).length := by
  cases hg : getE p.L s with
  | none => exact Nat.le_refl _
  | some e => exact hp.syn e (getE_mem hg).1
theorem Pd.Ok.tick (h : p.Ok) : p.tick.Ok := by
  refine ⟨h.up, h.used, h.room, ?_, h.syn⟩
  have := h.after
  show _ ≤ (if 0 < p.after then p.after - 1 else p.after) ∧ (if 0 < p.after then p.after - 1 else p.after) ≤ _
  split <;> omega
theorem Pd.Ok.die (h : p.Ok) : p.die.Ok := ⟨h.up, h.used, h.room, h.after, h.syn⟩
theorem Pd.Ok.app (h : p.Ok) (hf : usedE p.L + xs.length ≤ p.room) : (p.app s xs).Ok := by
  refine ⟨h.up.put _, by rw [used_app h]; exact hf, h.room, h.after, fun e he => ?_⟩
  rcases mem_put he with rfl | he
  · show synE _ ≤ (bsE _ ++ xs).length
    have := syn_le h s
    rw [List.length_append]; omega
  · exact h.syn e he
/-- The same list, but for a file. -/
theorem Sees.put (h : Sees x p) (hp : p.Ok) {f : Fl} (hb : f.bs = bytesF (x.fs s) ++ xs) (hs : f.syn = synF (x.fs s)) (n : Nat) (hn : n = xs.length) : Sees (x.put s f n) (p.app s xs) := by
  refine ⟨h.room, ?_, h.after, h.torn, h.dead, fun t => ?_⟩
  · show x.used + (n : Int) = _
    rw [used_app hp, h.used, hn]; simp
  · show (updF x.fs s (some f) t).map _ = (getE (putE _ _) t).map _
    rw [getE_put]
    by_cases e : t = s
    · rw [e, updF_same, if_pos rfl]
      simp only [Option.map_some, hb, hs, (h.bytes s).1, (h.bytes s).2]
    · rw [updF_other _ _ e, if_neg e]; exact h.fs t
end
section
variable {p : Pd} {d N : Nat} {F : Nat → Prop} {W : World} {s xs : Nm}
/-- What a call leaves of a disk. -/
def Left (p : Pd) (d N : Nat) (F : Nat → Prop) (W W' : World) : Prop := ∃ F', On p d N F' W' ∧ Chg F F' W W'
theorem On.append (h : On p d N F W) (hN : N < 999000) (hs : s.length ≤ maxLen) (hxs : xs.length ≤ 900000000) :
    Calls Tryz.prog 22 #[.pointer (some ⟨d, 0, none⟩), .string (str s), .string (str xs)] W fun e W' => e = .returned (.int .i64 (p.append s xs).1) ∧ Left (p.append s xs).2 d (N + 1) F W W' := by
  obtain ⟨hp, x, rfl, rfl, h1, h2, h3⟩ := h
  have hF := h3.fine hp (by omega)
  have hbs : (bytesF (x.fs s)).length + xs.length ≤ 1000000000 := by rw [(h3.bytes s).1]; have := bs_le hp s; omega
  have hfit : (xs.length : Int) ≤ x.room - x.used ↔ usedE p.L + xs.length ≤ p.room := by rw [h3.room, h3.used]; omega
  unfold Pd.append
  rw [← h3.torn]
  cases hd : x.dead with
  | true =>
    rw [if_pos (h3.dead.symm.trans hd)]
    refine (append_dead h1 hd hF).mono ?_
    rintro e W2 ⟨rfl, q1, q2⟩
    exact ⟨rfl, _, ⟨hp, x, rfl, rfl, q1, by omega, h3⟩, q2⟩
  | false =>
    rw [if_neg (by rw [← h3.dead, hd]; decide)]
    by_cases ha : x.after = 0
    · rw [if_pos (h3.after.symm.trans ha)]
      by_cases hf : usedE p.L + xs.length ≤ p.room
      · refine (append_crash h1 hd ha hF (hfit.2 hf) hs hbs).mono ?_
        rintro e W2 ⟨rfl, q⟩
        refine ⟨rfl, ?_⟩
        unfold TornQ at q
        change (if tornN x.torn xs.length = 0 then _ else _) at q
        by_cases hz : tornN x.torn xs.length = 0
        · rw [if_pos hz] at q
          rw [if_neg (fun h => h.2 hz)]
          exact ⟨_, ⟨hp.die, { x with dead := true }, rfl, rfl, q.1, by show x.n ≤ _; omega, h3.die⟩, q.2⟩
        · rw [if_neg hz] at q
          rw [if_pos ⟨hf, hz⟩]
          obtain ⟨f, k1, k2, k3, k4⟩ := q
          have hln : (xs.take (tornN x.torn xs.length)).length = tornN x.torn xs.length := by rw [List.length_take]; exact Nat.min_eq_left (Nat.min_le_right _ _)
          have hle : tornN x.torn xs.length ≤ xs.length := Nat.min_le_right _ _
          exact ⟨_, ⟨hp.die.app (by rw [hln]; show usedE p.L + _ ≤ p.room; omega), ({ x with dead := true } : Dk).put s f (tornN x.torn xs.length), rfl, rfl, k3, by show x.n + 1 ≤ _; omega, h3.die.put hp.die k1 k2 _ hln.symm⟩, k4⟩
      · refine (append_crash_full h1 hd ha hF (fun h => hf (hfit.1 h))).mono ?_
        rintro e W2 ⟨rfl, q1, q2⟩
        rw [if_neg (fun h => hf h.1)]
        exact ⟨rfl, _, ⟨hp.die, { x with dead := true }, rfl, rfl, q1, by show x.n ≤ _; omega, h3.die⟩, q2⟩
    · rw [if_neg (by rw [← h3.after]; exact ha)]
      by_cases hf : usedE p.L + xs.length ≤ p.room
      · rw [if_pos hf]
        refine (append_fits h1 hd ha hF (hfit.2 hf) hs hbs).mono ?_
        rintro e W2 ⟨rfl, f, k1, k2, k3, k4⟩
        exact ⟨rfl, _, ⟨hp.tick.app hf, x.tick.put s f xs.length, rfl, rfl, k3, by show x.n + 1 ≤ _; omega, h3.tick.put hp.tick k1 k2 _ rfl⟩, k4⟩
      · rw [if_neg hf]
        refine (append_full h1 hd ha hF (fun h => hf (hfit.1 h))).mono ?_
        rintro e W2 ⟨rfl, q1, q2⟩
        exact ⟨rfl, _, ⟨hp.tick, x.tick, rfl, rfl, q1, by show x.n ≤ _; omega, h3.tick⟩, q2⟩
end
end Go.Proofs.YtialfpkmcafkmaaGreat
