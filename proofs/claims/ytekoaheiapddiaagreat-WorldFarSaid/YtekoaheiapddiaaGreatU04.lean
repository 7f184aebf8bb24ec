/- Merged: Qs, Dkl, Qe, Qf, Qg, Qh. -/
import Derived.Test.YtekoaheiapddiaaGreatU03
import Derived.Sort.KeysCollected
section
namespace Go.Proofs.YtekoaheiapddiaaGreat.Dz
open Go.RowKit Go.Maps Go.WideElems Go.ChangeMaps Go.MapKept Go.WideMaps
section
variable {x : Dk} {W : World} {s xs : Nm} {b0 b1 b2 b3 : Nat}
set_option maxRecDepth 100000 in
theorem torn_full (hc : Caps x s xs b0 b1 b2 b3 W) (h : DiskAt x W) (hf : ¬ (xs.length : Int) ≤ x.room - x.used) :
    Calls Tryz.prog 249 #[.pointer (some ⟨b2, 0, none⟩), .pointer (some ⟨b0, 0, none⟩), .pointer (some ⟨b3, 0, none⟩), .pointer (some ⟨b1, 0, none⟩)] W fun e W' => e = .returned (.tuple #[]) ∧
      DiskAt x W' ∧ Chg x.ft x.ft W W' := by
  obtain ⟨k0, k1, k2, k3⟩ := hc.reads
  rw [decide_eq_false hf] at k3
  have d4 := h.reads.1.2.2.2.2.1
  have hxs := str_size xs
  have HS := Lib.hid (fun (V : World) (hV : Below W.heap.size W V) => (show V.cell? ⟨b0, 0, none⟩ = some (.pointer (some ⟨x.d, 0, none⟩)) ∧ V.cell? ⟨b2, 0, none⟩ = some (.string (str xs)) ∧ V.cell? ⟨x.d, 4, none⟩ = some (.int .i64 x.torn) from
    ⟨cell_of ((hV.block _ (lt_of hc.c0)).trans hc.c0) 0, cell_of ((hV.block _ (lt_of hc.c2)).trans hc.c2) 0, (h.below hV).reads.1.2.2.2.2.1⟩))
  obtain ⟨m, hm⟩ : ∃ m, m = tornN x.torn xs.length := ⟨_, rfl⟩
  have HC := Lib.hid h
  clear hc h hf
  go_enter Tryz.func249, Tryz.ntmps249
  go_wp2_with fail
  have H0 : Below W.heap.size W W.drew := (Below.refl _ _).drew
  refine Drawn.start (fun V => Below W.heap.size W V) (fun _ => false) (by kernel_rfl) ?_
  refine Drawn.take 0 (some 5) (v := ?_) rfl rfl (by kernel_rfl) (by kernel_rfl) (by kernel_rfl) (by kernel_rfl) (by kernel_rfl) rfl (fun _ _ _ h => h) (Or.inl ⟨rfl, ?_⟩) H0 ?_
  rotate_left
  · intro W hW; have hW := HS.out W hW; go_simp; try with_reducible rfl
  simp only [put_list, List.set]
  refine Drawn.take 1 (some 6) (v := ?_) rfl rfl (by kernel_rfl) (by kernel_rfl) (by kernel_rfl) (by kernel_rfl) (by kernel_rfl) rfl (fun _ _ _ h => h) (Or.inl ⟨rfl, ?_⟩) H0 ?_
  rotate_left
  · intro W hW; have hW := HS.out W hW; go_simp; try with_reducible rfl
  simp only [put_list, List.set]
  refine Drawn.take 2 (some 7) (v := ?_) rfl rfl (by kernel_rfl) (by kernel_rfl) (by kernel_rfl) (by kernel_rfl) (by kernel_rfl) rfl (fun _ _ _ h => h) (Or.inl ⟨rfl, ?_⟩) H0 ?_
  rotate_left
  · intro W hW; have hW := HS.out W hW; go_simp; try with_reducible rfl
  simp only [put_list, List.set]
  refine Drawn.take 3 (some 8) (v := ?_) rfl rfl (by kernel_rfl) (by kernel_rfl) (by kernel_rfl) (by kernel_rfl) (by kernel_rfl) rfl (fun _ _ _ h => h) (Or.inl ⟨rfl, ?_⟩) H0 ?_
  rotate_left
  · intro W hW; have hW := HS.out W hW; go_simp; try with_reducible rfl
  simp only [put_list, List.set]
  refine Drawn.take 4 (some 9) (v := ?_) rfl rfl (by kernel_rfl) (by kernel_rfl) (by kernel_rfl) (by kernel_rfl) (by kernel_rfl) rfl (fun _ _ _ h => h) (Or.inl ⟨rfl, ?_⟩) H0 ?_
  rotate_left
  · intro W hW; have hW := HS.out W hW; go_simp; try with_reducible rfl
  simp only [put_list, List.set]
  refine Drawn.take 5 (some 10) (v := ?_) rfl rfl (by kernel_rfl) (by kernel_rfl) (by kernel_rfl) (by kernel_rfl) (by kernel_rfl) rfl (fun _ _ _ h => h) (Or.inl ⟨rfl, ?_⟩) H0 ?_
  rotate_left
  · intro W hW; have hW := HS.out W hW; go_simp; try with_reducible rfl
  simp only [put_list, List.set]
  refine Drawn.take 6 (some 11) (v := ?_) rfl rfl (by kernel_rfl) (by kernel_rfl) (by kernel_rfl) (by kernel_rfl) (by kernel_rfl) rfl (fun _ _ _ h => h) (Or.inl ⟨rfl, ?_⟩) H0 ?_
  rotate_left
  · intro W hW; have hW := HS.out W hW; go_simp; try with_reducible rfl
  simp only [put_list, List.set]
  refine Drawn.take 7 (some 12) (v := ?_) rfl rfl (by kernel_rfl) (by kernel_rfl) (by kernel_rfl) (by kernel_rfl) (by kernel_rfl) rfl (fun _ _ _ h => h) (Or.inl ⟨rfl, ?_⟩) H0 ?_
  rotate_left
  · intro W hW; have hW := HS.out W hW; go_simp; try with_reducible rfl
  simp only [put_list, List.set]
  refine Drawn.take 8 (some 13) (v := ?_) rfl rfl (by kernel_rfl) (by kernel_rfl) (by kernel_rfl) (by kernel_rfl) (by kernel_rfl) rfl (fun _ _ _ h => h) (Or.inl ⟨rfl, ?_⟩) H0 ?_
  rotate_left
  · intro W hW; have hW := HS.out W hW; go_simp; try with_reducible rfl
  simp only [put_list, List.set]
  rw [torn_is, ← hm]
  have hle : m ≤ xs.length := by rw [hm]; exact Nat.min_le_right _ _
  have hst := str_take xs m
  have HM := Lib.hid hm
  clear hm
  refine Drawn.take 9 (some 14) (v := ?_) rfl rfl (by kernel_rfl) (by kernel_rfl) (by kernel_rfl) (by kernel_rfl) (by kernel_rfl) rfl (fun _ _ _ h => h) (Or.inl ⟨rfl, ?_⟩) H0 ?_
  rotate_left
  · intro W hW; have hW := HS.out W hW; go_simp; try with_reducible rfl
  simp only [put_list, List.set]
  refine Drawn.take 10 (some 4) (v := ?_) rfl rfl (by kernel_rfl) (by kernel_rfl) (by kernel_rfl) (by kernel_rfl) (by kernel_rfl) rfl (fun _ _ _ h => h) (Or.inl ⟨rfl, ?_⟩) H0 ?_
  rotate_left
  · intro W hW; have hW := HS.out W hW; go_simp; try with_reducible rfl
  simp only [put_list, List.set]
  refine Drawn.done (by kernel_rfl) ?_ _
  have k3 : W.drew.cell? ⟨b3, 0, none⟩ = some (.bool false) := k3
  have k0 : W.drew.cell? ⟨b0, 0, none⟩ = some (.pointer (some ⟨x.d, 0, none⟩)) := k0
  have k1 : W.drew.cell? ⟨b1, 0, none⟩ = some (.string (str s)) := k1
  clear HS hst hle HM
  generalize (if x.torn < 0 then 0 else x.torn) = q at *
  go_wp2_with fail
  go_end0
  exact ⟨rfl, HC.out.drew, Chg.of_below H0⟩
theorem append_crash_full (h : DiskAt x W) (hd : x.dead = false) (ha : x.after = 0) (hx : Fine x) (hf : ¬ (xs.length : Int) ≤ x.room - x.used) :
    Calls Tryz.prog 222 #[.pointer (some ⟨x.d, 0, none⟩), .string (str s), .string (str xs)] W fun e W' => e = .returned (.int .i64 19) ∧ DiskAt { x with dead := true } W' ∧ Chg x.ft x.ft W W' := by
  refine (append_any h s xs ⟨by have := hx.used; omega, by have := hx.used; omega⟩ ⟨hx.room.1, by have := hx.room; omega⟩ (fun r W' => r = 19 ∧ DiskAt { x with dead := true } W' ∧ Chg x.ft x.ft W W') fun W1 b0 b1 b2 b3 h1 hb1 hc => ?_).mono ?_
  · refine (step_crash h1 hd ha _ _ _ (enter_torn _ _ _ _) (fun W' => DiskAt { x with dead := true } W' ∧ Chg x.ft x.ft W W') fun W2 h2 hc2 => ?_).mono ?_
    · refine (torn_full (hc.chg (y := { x with dead := true }) hc2 (fun _ h => h) rfl rfl rfl (fun _ h => h)) h2 hf).mono ?_
      rintro e W3 ⟨rfl, hq, hq2⟩
      exact ⟨rfl, hq, ((Chg.of_below hb1).trans hc2).trans hq2⟩
    · rintro e W2 ⟨rfl, hq⟩
      exact ⟨_, rfl, rfl, hq⟩
  · rintro e W2 ⟨r, rfl, rfl, hq⟩
    exact ⟨rfl, hq⟩
theorem enter_change2 (w : World) : (callFunc 269 #[]).run Tryz.prog w = .ok (.enter 269 #[]) w := by kernel_rfl
set_option maxRecDepth 100000 in
theorem chg2_c (W : World) : Calls Tryz.prog 269 #[] W fun e W' => e = .returned (.tuple #[]) ∧ W' = W := by
  go_enter Tryz.func269, Tryz.ntmps269
  go_wp2_with fail
  go_end0
  exact ⟨rfl, rfl⟩
/-- change, in each of its ways. -/
theorem change_all (h : DiskAt x W) (hx : Fine x) (hs : s.length ≤ maxLen) (nd : FuncId) (dc : Array Value)
    (hen : ∀ w, (callFunc nd (#[.pointer (some ⟨x.d, 0, none⟩), .string (str s)] ++ dc)).run Tryz.prog w = .ok (.enter nd (#[.pointer (some ⟨x.d, 0, none⟩), .string (str s)] ++ dc)) w) (Q : Int → World → Prop)
    (h1 : x.dead = true → ∀ W', DiskAt x W' → Chg x.ft x.ft W W' → Q 19 W') (h2 : x.dead = false → x.after = 0 → ∀ W', DiskAt { x with dead := true } W' → Chg x.ft x.ft W W' → Q 19 W')
    (h3 : x.dead = false → x.after ≠ 0 → x.fs s = none → ∀ W', DiskAt x.tick W' → Chg x.ft x.ft W W' → Q 6 W')
    (h4 : x.dead = false → x.after ≠ 0 → ∀ f, x.fs s = some f → ∀ W1, DiskAt x.tick W1 → Chg x.ft x.ft W W1 → Calls Tryz.prog nd (#[.pointer (some ⟨x.d, 0, none⟩), .string (str s)] ++ dc) W1 fun e W' => e = .returned (.tuple #[]) ∧ Q 0 W') :
    Calls Tryz.prog 251 #[.pointer (some ⟨x.d, 0, none⟩), .string (str s), .func (.func nd) #[] dc] W fun e W' => ∃ r, e = .returned (.int .i64 r) ∧ Q r W' := by
  cases hd : x.dead with
  | true =>
    refine change_any h s nd dc Q fun W1 b0 b1 b2 q1 hb1 hc => ?_
    refine (step_dead q1 hd _ _).mono ?_
    rintro e W2 ⟨rfl, rfl⟩
    exact ⟨_, rfl, h1 hd _ q1 (Chg.of_below hb1)⟩
  | false =>
    by_cases ha : x.after = 0
    · refine change_any h s nd dc Q fun W1 b0 b1 b2 q1 hb1 hc => ?_
      refine (step_crash q1 hd ha _ _ _ enter_change2 (fun W' => DiskAt { x with dead := true } W' ∧ Chg x.ft x.ft W W') fun W2 q2 hc2 => ?_).mono ?_
      · refine (chg2_c W2).mono ?_
        rintro e W3 ⟨rfl, rfl⟩
        exact ⟨rfl, q2, (Chg.of_below hb1).trans hc2⟩
      · rintro e W2 ⟨rfl, q2, hc2⟩
        exact ⟨_, rfl, h2 hd ha _ q2 hc2⟩
    · cases hf : x.fs s with
      | none =>
        refine (change_none h hd ha hx hf hs nd dc).mono ?_
        rintro e W2 ⟨rfl, q1, q2⟩
        exact ⟨_, rfl, h3 hd ha hf _ q1 q2⟩
      | some f =>
        refine (change_some h hd ha hx hf hs nd dc hen (Q 0) (h4 hd ha f hf)).mono ?_
        rintro e W2 ⟨rfl, q⟩
        exact ⟨_, rfl, q⟩
set_option maxRecDepth 100000 in
theorem sync_of (Q : Int → World → Prop) (d : Nat) (s : Nm) (h : Calls Tryz.prog 251 #[.pointer (some ⟨d, 0, none⟩), .string (str s), .func (.func 252) #[] #[]] W fun e W' => ∃ r, e = .returned (.int .i64 r) ∧ Q r W') :
    Calls Tryz.prog 224 #[.pointer (some ⟨d, 0, none⟩), .string (str s)] W fun e W' => ∃ r, e = .returned (.int .i64 r) ∧ Q r W' := by
  have HC := Lib.hid h
  clear h
  generalize str s = y at *
  go_enter Tryz.func224, Tryz.ntmps224
  go_wp2_with fail
  refine HC.out.mono ?_
  rintro e W2 ⟨r, rfl, hq⟩
  have HQ := Lib.hid hq
  clear hq HC
  go_wp2_with fail
  go_ret
  exact ⟨_, rfl, HQ.out⟩
end
end Go.Proofs.YtekoaheiapddiaaGreat.Dz
end
section
namespace Go.Proofs.YtekoaheiapddiaaGreat.Dz
open Go.RowKit

/-- A file: its name, its bytes, how many are synced. -/
structure Ent where
  name : Nm
  bs : Nm
  syn : Nat
def getE : List Ent → Nm → Option Ent
  | [], _ => none
  | x :: r, s => if x.name = s then some x else getE r s
def putE : List Ent → Ent → List Ent
  | [], e => [e]
  | x :: r, e => if e.name < x.name then e :: x :: r else if x.name = e.name then e :: r else x :: putE r e
def dropE : List Ent → Nm → List Ent
  | [], _ => []
  | x :: r, s => if x.name = s then r else x :: dropE r s
def usedE : List Ent → Nat
  | [] => 0
  | x :: r => x.bs.length + usedE r
/-- Rising. -/
def Up : List Ent → Prop
  | [] => True
  | x :: r => (∀ y ∈ r, x.name < y.name) ∧ Up r
theorem nlt (a : Nm) : ¬ a < a := List.lt_irrefl a
theorem ntr {a b c : Nm} (h : a < b) (k : b < c) : a < c := List.lt_trans h k
theorem ntri {a b : Nm} (h : ¬ a < b) (k : b ≠ a) : b < a := by
  rcases Nat.lt_or_ge 0 0 with h0 | _
  · omega
  · exact Classical.byContradiction fun h2 => k (List.le_antisymm (List.not_lt.1 h) (List.not_lt.1 h2))
theorem getE_mem {L : List Ent} {s : Nm} {e : Ent} (h : getE L s = some e) : e ∈ L ∧ e.name = s := by
  induction L with
  | nil => cases h
  | cons x r ih =>
    simp only [getE] at h
    split at h
    · rename_i hx; cases h; exact ⟨by simp, hx⟩
    · exact ⟨by simp [(ih h).1], (ih h).2⟩
theorem getE_put (L : List Ent) (e : Ent) (t : Nm) : getE (putE L e) t = if t = e.name then some e else getE L t := by
  induction L with
  | nil =>
    simp only [putE, getE]
    by_cases h : e.name = t
    · rw [if_pos h, if_pos h.symm]
    · rw [if_neg h, if_neg (fun k => h k.symm)]
  | cons x r ih =>
    simp only [putE]
    split
    · by_cases h : t = e.name
      · rw [if_pos h]; simp [getE, h]
      · rw [if_neg h]; simp [getE, Ne.symm h]
    · split
      · rename_i hx
        by_cases h : t = e.name
        · rw [if_pos h]; simp [getE, h]
        · rw [if_neg h]; simp only [getE]; rw [if_neg (fun k => h k.symm), if_neg (fun k => h (k.symm.trans hx))]
      · rename_i hx
        simp only [getE]
        rw [ih]
        by_cases h : t = e.name
        · rw [if_pos h, if_pos h, if_neg (fun k => hx (k.trans h))]
        · rw [if_neg h, if_neg h]
theorem mem_put {L : List Ent} {e f : Ent} (h : f ∈ putE L e) : f = e ∨ f ∈ L := by
  induction L with
  | nil => simpa [putE] using h
  | cons x r ih =>
    simp only [putE] at h
    split at h
    · simpa using h
    · split at h
      · rcases List.mem_cons.1 h with h | h
        · exact Or.inl h
        · exact Or.inr (by simp [h])
      · rcases List.mem_cons.1 h with h | h
        · exact Or.inr (by simp [h])
        · exact (ih h).imp id (fun h => by simp [h])
theorem Up.put {L : List Ent} (h : Up L) (e : Ent) : Up (putE L e) := by
  induction L with
  | nil => simp [putE, Up]
  | cons x r ih =>
    obtain ⟨h1, h2⟩ := h
    simp only [putE]
    split
    · rename_i hl
      exact ⟨fun y hy => by
        rcases List.mem_cons.1 hy with rfl | hy
        · exact hl
        · exact ntr hl (h1 y hy), h1, h2⟩
    · split
      · rename_i hx
        exact ⟨fun y hy => hx ▸ h1 y hy, h2⟩
      · rename_i hl hx
        exact ⟨fun y hy => by
          rcases mem_put hy with rfl | hy
          · exact ntri hl hx
          · exact h1 y hy, ih h2⟩
theorem usedE_drop {L : List Ent} {s : Nm} {f : Ent} (h : getE L s = some f) : usedE (dropE L s) + f.bs.length = usedE L := by
  induction L with
  | nil => cases h
  | cons x r ih =>
    simp only [getE] at h
    simp only [dropE]
    split at h
    · rename_i hx; cases h; rw [if_pos hx]; simp only [usedE]; omega
    · rename_i hx; rw [if_neg hx]; have := ih h; simp only [usedE]; omega
theorem usedE_le {L : List Ent} {s : Nm} {f : Ent} (h : getE L s = some f) : f.bs.length ≤ usedE L := by have := usedE_drop h; omega
/-- What a list had under a name. -/
def lenE : Option Ent → Nat
  | none => 0
  | some f => f.bs.length
theorem usedE_put {L : List Ent} (hU : Up L) (e : Ent) : usedE (putE L e) + lenE (getE L e.name) = usedE L + e.bs.length := by
  induction L with
  | nil => simp [putE, usedE, getE, lenE]
  | cons x r ih =>
    simp only [putE]
    split
    · rename_i hl
      have hn : getE (x :: r) e.name = .none := by
        cases hg : getE (x :: r) e.name with
        | none => rfl
        | some f =>
          obtain ⟨h1, h2⟩ := getE_mem hg
          rcases List.mem_cons.1 h1 with rfl | h1
          · rw [h2] at hl; exact absurd hl (nlt _)
          · have := ntr hl (hU.1 f h1); rw [h2] at this; exact absurd this (nlt _)
      rw [hn]; simp only [usedE, lenE]; omega
    · split
      · rename_i hx
        simp only [getE]; rw [if_pos hx]; simp only [usedE, lenE]; omega
      · rename_i hx
        simp only [getE]; rw [if_neg hx]; have := ih hU.2; simp only [usedE]; omega
end Go.Proofs.YtekoaheiapddiaaGreat.Dz
end
section
namespace Go.Proofs.YtekoaheiapddiaaGreat.Dz
open Go.RowKit

/-- A disk as plain data. -/
structure Pd where
  L : List Ent
  room : Nat
  after : Int
  torn : Int
  dead : Bool
def Pd.tick (p : Pd) : Pd := { p with after := if 0 < p.after then p.after - 1 else p.after }
def Pd.die (p : Pd) : Pd := { p with dead := true }
def bsE : Option Ent → Nm
  | none => []
  | some e => e.bs
def synE : Option Ent → Nat
  | none => 0
  | some e => e.syn
theorem lenE_eq (o : Option Ent) : lenE o = (bsE o).length := by cases o <;> rfl
def Pd.app (p : Pd) (s xs : Nm) : Pd := { p with L := putE p.L ⟨s, bsE (getE p.L s) ++ xs, synE (getE p.L s)⟩ }
def Pd.append (p : Pd) (s xs : Nm) : Int × Pd :=
  if p.dead = true then (19, p)
  else if p.after = 0 then (19, if usedE p.L + xs.length ≤ p.room ∧ tornN p.torn xs.length ≠ 0 then p.die.app s (xs.take (tornN p.torn xs.length)) else p.die)
  else if usedE p.L + xs.length ≤ p.room then (0, p.tick.app s xs) else (5, p.tick)
/-- A step at a file that is there. -/
def Pd.change (p : Pd) (s : Nm) (f : Ent → List Ent) : Int × Pd :=
  if p.dead = true then (19, p) else if p.after = 0 then (19, p.die) else
  match getE p.L s with
  | none => (6, p.tick)
  | some e => (0, { p.tick with L := f e })
def Pd.sync (p : Pd) (s : Nm) : Int × Pd := p.change s fun e => putE p.L ⟨s, e.bs, e.bs.length⟩
def Pd.new (room : Nat) : Pd := ⟨[], room, -1, 0, false⟩
def readV : Option Ent → Value
  | none => .tuple #[.string (str []), .bool false]
  | some e => .tuple #[.string (str e.bs), .bool true]
/-- What holds of each disk. -/
structure Pd.Ok (p : Pd) : Prop where
  up : Up p.L
  used : usedE p.L ≤ p.room
  room : p.room ≤ 1048576
  after : -9223372036854775808 ≤ p.after ∧ p.after ≤ 9223372036854775807
  syn : ∀ e ∈ p.L, e.syn ≤ e.bs.length
/-- The disk of the proof is that of plain data. -/
structure Sees (x : Dk) (p : Pd) : Prop where
  room : x.room = (p.room : Int)
  used : x.used = (usedE p.L : Int)
  after : x.after = p.after
  torn : x.torn = p.torn
  dead : x.dead = p.dead
  fs : ∀ s, (x.fs s).map (fun f => (f.bs, f.syn)) = (getE p.L s).map (fun e => (e.bs, e.syn))
structure On (p : Pd) (d N : Nat) (F : Nat → Prop) (W : World) : Prop where
  ok : p.Ok
  ex : ∃ x : Dk, x.d = d ∧ F = x.ft ∧ DiskAt x W ∧ x.n ≤ N ∧ Sees x p
section
variable {x : Dk} {p : Pd} {s xs : Nm}
theorem Sees.fine (h : Sees x p) (hp : p.Ok) (hn : x.n < 1000000) : Fine x :=
  ⟨⟨by rw [h.room]; omega, by have := hp.room; rw [h.room]; omega⟩, ⟨by rw [h.used]; omega, by have := hp.used; have := hp.room; rw [h.used]; omega⟩, by rw [h.after]; exact hp.after, hn⟩
theorem Sees.gone (h : Sees x p) (hs : x.fs s = none) : getE p.L s = none := by
  have := h.fs s
  rw [hs] at this
  cases hg : getE p.L s with
  | none => rfl
  | some e => rw [hg] at this; cases this
theorem Sees.there (h : Sees x p) {f : Fl} (hs : x.fs s = some f) : ∃ e, getE p.L s = some e ∧ f.bs = e.bs ∧ f.syn = e.syn := by
  have := h.fs s
  rw [hs] at this
  cases hg : getE p.L s with
  | none => rw [hg] at this; cases this
  | some e =>
    rw [hg] at this
    simp only [Option.map_some, Option.some.injEq, Prod.mk.injEq] at this
    exact ⟨e, rfl, this⟩
theorem Sees.bytes (h : Sees x p) (s : Nm) : bytesF (x.fs s) = bsE (getE p.L s) ∧ synF (x.fs s) = synE (getE p.L s) := by
  cases hs : x.fs s with
  | none => rw [h.gone hs]; exact ⟨rfl, rfl⟩
  | some f => obtain ⟨e, h1, h2, h3⟩ := h.there hs; rw [h1]; exact ⟨h2, h3⟩
theorem Sees.tick (h : Sees x p) : Sees x.tick p.tick := by
  refine ⟨h.room, h.used, ?_, h.torn, h.dead, h.fs⟩
  simp only [Dk.tick, Pd.tick, h.after]
theorem Sees.die (h : Sees x p) : Sees { x with dead := true } p.die := ⟨h.room, h.used, h.after, h.torn, rfl, h.fs⟩
theorem bs_le (hp : p.Ok) (s : Nm) : (bsE (getE p.L s)).length ≤ 1048576 := by
  rw [← lenE_eq]
  cases hg : getE p.L s with
  | none => simp [lenE]
  | some e => have := usedE_le hg; have := hp.used; have := hp.room; simp only [lenE]; omega
theorem used_app (hp : p.Ok) (s xs : Nm) : usedE (p.app s xs).L = usedE p.L + xs.length := by
  have := usedE_put hp.up ⟨s, bsE (getE p.L s) ++ xs, synE (getE p.L s)⟩
  simp only [List.length_append, lenE_eq] at this
  show usedE (putE _ _) = _
  omega
theorem syn_le (hp : p.Ok) (s : Nm) : synE (getE p.L s) ≤ (bsE (getE p.L s)).length := by
  cases hg : getE p.L s with
  | none => exact Nat.le_refl _
  | some e => exact hp.syn e (getE_mem hg).1
theorem Pd.Ok.tick (h : p.Ok) : p.tick.Ok := by
  refine ⟨h.up, h.used, h.room, ?_, h.syn⟩
  have := h.after
  show _ ≤ (if 0 < p.after then p.after - 1 else p.after) ∧ (if 0 < p.after then p.after - 1 else p.after) ≤ _
  split <;> omega
theorem Pd.Ok.die (h : p.Ok) : p.die.Ok := ⟨h.up, h.used, h.room, h.after, h.syn⟩
theorem Pd.Ok.app (h : p.Ok) (hf : usedE p.L + xs.length ≤ p.room) : (p.app s xs).Ok := by
  refine ⟨h.up.put _, by rw [used_app h]; exact hf, h.room, h.after, fun e he => ?_⟩
  rcases mem_put he with rfl | he
  · show synE _ ≤ (bsE _ ++ xs).length
    have := syn_le h s
    rw [List.length_append]; omega
  · exact h.syn e he
/-- The same list, but for a file. -/
theorem Sees.put (h : Sees x p) (hp : p.Ok) {f : Fl} (hb : f.bs = bytesF (x.fs s) ++ xs) (hs : f.syn = synF (x.fs s)) (n : Nat) (hn : n = xs.length) : Sees (x.put s f n) (p.app s xs) := by
  refine ⟨h.room, ?_, h.after, h.torn, h.dead, fun t => ?_⟩
  · show x.used + (n : Int) = _
    rw [used_app hp, h.used, hn]; simp
  · show (updF x.fs s (some f) t).map _ = (getE (putE _ _) t).map _
    rw [getE_put]
    by_cases e : t = s
    · rw [e, updF_same, if_pos rfl]
      simp only [Option.map_some, hb, hs, (h.bytes s).1, (h.bytes s).2]
    · rw [updF_other _ _ e, if_neg e]; exact h.fs t
end
section
variable {p : Pd} {d N : Nat} {F : Nat → Prop} {W : World} {s xs : Nm}
/-- What a call leaves of a disk. -/
def Left (p : Pd) (d N : Nat) (F : Nat → Prop) (W W' : World) : Prop := ∃ F', On p d N F' W' ∧ Chg F F' W W'
theorem On.append (h : On p d N F W) (hN : N < 999000) (hs : s.length ≤ maxLen) (hxs : xs.length ≤ 900000000) :
    Calls Tryz.prog 222 #[.pointer (some ⟨d, 0, none⟩), .string (str s), .string (str xs)] W fun e W' => e = .returned (.int .i64 (p.append s xs).1) ∧ Left (p.append s xs).2 d (N + 1) F W W' := by
  obtain ⟨hp, x, rfl, rfl, h1, h2, h3⟩ := h
  have hF := h3.fine hp (by omega)
  have hbs : (bytesF (x.fs s)).length + xs.length ≤ 1000000000 := by rw [(h3.bytes s).1]; have := bs_le hp s; omega
  have hfit : (xs.length : Int) ≤ x.room - x.used ↔ usedE p.L + xs.length ≤ p.room := by rw [h3.room, h3.used]; omega
  unfold Pd.append
  rw [← h3.torn]
  cases hd : x.dead with
  | true =>
    rw [if_pos (h3.dead.symm.trans hd)]
    refine (append_dead h1 hd hF).mono ?_
    rintro e W2 ⟨rfl, q1, q2⟩
    exact ⟨rfl, _, ⟨hp, x, rfl, rfl, q1, by omega, h3⟩, q2⟩
  | false =>
    rw [if_neg (by rw [← h3.dead, hd]; decide)]
    by_cases ha : x.after = 0
    · rw [if_pos (h3.after.symm.trans ha)]
      by_cases hf : usedE p.L + xs.length ≤ p.room
      · refine (append_crash h1 hd ha hF (hfit.2 hf) hs hbs).mono ?_
        rintro e W2 ⟨rfl, q⟩
        refine ⟨rfl, ?_⟩
        unfold TornQ at q
        change (if tornN x.torn xs.length = 0 then _ else _) at q
        by_cases hz : tornN x.torn xs.length = 0
        · rw [if_pos hz] at q
          rw [if_neg (fun h => h.2 hz)]
          exact ⟨_, ⟨hp.die, { x with dead := true }, rfl, rfl, q.1, by show x.n ≤ _; omega, h3.die⟩, q.2⟩
        · rw [if_neg hz] at q
          rw [if_pos ⟨hf, hz⟩]
          obtain ⟨f, k1, k2, k3, k4⟩ := q
          have hln : (xs.take (tornN x.torn xs.length)).length = tornN x.torn xs.length := by rw [List.length_take]; exact Nat.min_eq_left (Nat.min_le_right _ _)
          have hle : tornN x.torn xs.length ≤ xs.length := Nat.min_le_right _ _
          exact ⟨_, ⟨hp.die.app (by rw [hln]; show usedE p.L + _ ≤ p.room; omega), ({ x with dead := true } : Dk).put s f (tornN x.torn xs.length), rfl, rfl, k3, by show x.n + 1 ≤ _; omega, h3.die.put hp.die k1 k2 _ hln.symm⟩, k4⟩
      · refine (append_crash_full h1 hd ha hF (fun h => hf (hfit.1 h))).mono ?_
        rintro e W2 ⟨rfl, q1, q2⟩
        rw [if_neg (fun h => hf h.1)]
        exact ⟨rfl, _, ⟨hp.die, { x with dead := true }, rfl, rfl, q1, by show x.n ≤ _; omega, h3.die⟩, q2⟩
    · rw [if_neg (by rw [← h3.after]; exact ha)]
      by_cases hf : usedE p.L + xs.length ≤ p.room
      · rw [if_pos hf]
        refine (append_fits h1 hd ha hF (hfit.2 hf) hs hbs).mono ?_
        rintro e W2 ⟨rfl, f, k1, k2, k3, k4⟩
        exact ⟨rfl, _, ⟨hp.tick.app hf, x.tick.put s f xs.length, rfl, rfl, k3, by show x.n + 1 ≤ _; omega, h3.tick.put hp.tick k1 k2 _ rfl⟩, k4⟩
      · rw [if_neg hf]
        refine (append_full h1 hd ha hF (fun h => hf (hfit.1 h))).mono ?_
        rintro e W2 ⟨rfl, q1, q2⟩
        exact ⟨rfl, _, ⟨hp.tick, x.tick, rfl, rfl, q1, by show x.n ≤ _; omega, h3.tick⟩, q2⟩
end
end Go.Proofs.YtekoaheiapddiaaGreat.Dz
end
section
namespace Go.Proofs.YtekoaheiapddiaaGreat.Dz
open Go.RowKit Go.Maps Go.WideElems Go.ChangeMaps Go.MapKept Go.WideMaps
section
variable {p : Pd} {d N : Nat} {F : Nat → Prop} {W : World} {s xs : Nm}
theorem On.step (h : On p d N F W) (hN : N < 999000) (hs : s.length ≤ maxLen) (nd : FuncId) (dc : Array Value)
    (hen : ∀ w, (callFunc nd (#[.pointer (some ⟨d, 0, none⟩), .string (str s)] ++ dc)).run Tryz.prog w = .ok (.enter nd (#[.pointer (some ⟨d, 0, none⟩), .string (str s)] ++ dc)) w) (f : Ent → List Ent)
    (hdo : ∀ (x : Dk) (e : Ent) (fl : Fl) (W1 : World), x.d = d → F = x.ft → x.n ≤ N → DiskAt x.tick W1 → Sees x p → Fine x → getE p.L s = some e → x.fs s = some fl → fl.bs = e.bs → fl.syn = e.syn → Chg x.ft x.ft W W1 →
      Calls Tryz.prog nd (#[.pointer (some ⟨d, 0, none⟩), .string (str s)] ++ dc) W1 fun e' W' => e' = .returned (.tuple #[]) ∧ Left { p.tick with L := f e } d (N + 1) F W W') :
    Calls Tryz.prog 251 #[.pointer (some ⟨d, 0, none⟩), .string (str s), .func (.func nd) #[] dc] W fun e W' => ∃ r, e = .returned (.int .i64 r) ∧ (r = (p.change s f).1 ∧ Left (p.change s f).2 d (N + 1) F W W') := by
  obtain ⟨hp, x, rfl, rfl, h1, h2, h3⟩ := h
  have hF := h3.fine hp (by omega)
  refine change_all h1 hF hs nd dc hen (fun r W' => r = (p.change s f).1 ∧ Left (p.change s f).2 x.d (N + 1) x.ft W W') ?_ ?_ ?_ ?_
  · intro hd W' q1 q2
    unfold Pd.change
    rw [if_pos (h3.dead.symm.trans hd)]
    exact ⟨rfl, _, ⟨hp, x, rfl, rfl, q1, by omega, h3⟩, q2⟩
  · intro hd ha W' q1 q2
    unfold Pd.change
    rw [if_neg (by rw [← h3.dead, hd]; decide), if_pos (h3.after.symm.trans ha)]
    exact ⟨rfl, _, ⟨hp.die, { x with dead := true }, rfl, rfl, q1, by show x.n ≤ _; omega, h3.die⟩, q2⟩
  · intro hd ha hf W' q1 q2
    unfold Pd.change
    rw [if_neg (by rw [← h3.dead, hd]; decide), if_neg (by rw [← h3.after]; exact ha), h3.gone hf]
    exact ⟨rfl, _, ⟨hp.tick, x.tick, rfl, rfl, q1, by show x.n ≤ _; omega, h3.tick⟩, q2⟩
  · intro hd ha fl hf W1 q1 q2
    obtain ⟨e, k1, k2, k3⟩ := h3.there hf
    unfold Pd.change
    rw [if_neg (by rw [← h3.dead, hd]; decide), if_neg (by rw [← h3.after]; exact ha), k1]
    refine (hdo x e fl W1 rfl rfl h2 q1 h3 hF k1 hf k2 k3 q2).mono ?_
    rintro e2 W2 ⟨rfl, q⟩
    exact ⟨rfl, rfl, q⟩
theorem Pd.Ok.putS (h : p.Ok) {e : Ent} (hg : getE p.L s = some e) (n : Nat) (hn : n ≤ e.bs.length) : usedE (putE p.L ⟨s, e.bs, n⟩) = usedE p.L ∧ ({ p.tick with L := putE p.L ⟨s, e.bs, n⟩ } : Pd).Ok := by
  have hu : usedE (putE p.L ⟨s, e.bs, n⟩) = usedE p.L := by
    have := usedE_put h.up ⟨s, e.bs, n⟩
    simp only [hg, lenE] at this
    omega
  refine ⟨hu, h.up.put _, by rw [hu]; exact h.used, h.room, h.tick.after, fun f hf => ?_⟩
  rcases mem_put hf with rfl | hf
  · exact hn
  · exact h.syn f hf
theorem On.sync (h : On p d N F W) (hN : N < 999000) (hs : s.length ≤ maxLen) :
    Calls Tryz.prog 224 #[.pointer (some ⟨d, 0, none⟩), .string (str s)] W fun e W' => e = .returned (.int .i64 (p.sync s).1) ∧ Left (p.sync s).2 d (N + 1) F W W' := by
  refine (sync_of _ d s (h.step hN hs _ _ (enter_secure _ _) (fun e => putE p.L ⟨s, e.bs, e.bs.length⟩) ?_)).mono ?_
  · rintro x e fl W1 rfl rfl hn q1 h3 hF k1 hf k2 k3 q2
    refine (secure_c q1 hf hs).mono ?_
    rintro e2 W2 ⟨rfl, r1, r2⟩
    have hk := h.ok.putS k1 e.bs.length (Nat.le_refl _)
    refine ⟨rfl, _, ⟨hk.2, x.tick.syn s fl, rfl, rfl, r1, by show x.n ≤ _; omega, ⟨h3.room, by show x.used = _; rw [hk.1]; exact h3.used, h3.tick.after, h3.torn, h3.dead, fun t => ?_⟩⟩, q2.trans r2⟩
    show (updF x.fs s _ t).map _ = (getE (putE _ _) t).map _
    rw [getE_put]
    by_cases et : t = s
    · rw [et, updF_same, if_pos rfl]; simp [k2]
    · rw [updF_other _ _ et, if_neg et]; exact h3.fs t
  · rintro e W2 ⟨r, rfl, rfl, q⟩
    exact ⟨rfl, q⟩
theorem On.read (h : On p d N F W) (hs : s.length ≤ maxLen) :
    Calls Tryz.prog 101 #[.pointer (some ⟨d, 0, none⟩), .string (str s)] W fun e W' => e = .returned (readV (getE p.L s)) ∧ W' = W := by
  obtain ⟨hp, x, rfl, rfl, h1, h2, h3⟩ := h
  refine (read_c h1 hs).mono ?_
  rintro e W2 ⟨rfl, rfl⟩
  refine ⟨?_, rfl⟩
  cases hf : x.fs s with
  | none => rw [h3.gone hf]; rfl
  | some f => obtain ⟨e, k1, k2, k3⟩ := h3.there hf; rw [k1]; simp only [told, readV, k2]
theorem on_new (room : Nat) (hr : room ≤ 1048576) (W : World) :
    Calls Tryz.prog 12 #[.int .i64 (room : Nat)] W fun e W' => ∃ d, e = .returned (.tuple #[.pointer (some ⟨d, 0, none⟩), .int .i64 0]) ∧ Left (Pd.new room) d 0 (fun _ => False) W W' := by
  refine (new_c room hr W).mono ?_
  rintro e W2 ⟨d, m, rfl, q1, q2⟩
  exact ⟨d, rfl, _, ⟨⟨trivial, Nat.zero_le _, hr, ⟨by show _ ≤ (-1 : Int); omega, by show (-1 : Int) ≤ _; omega⟩, by intro e he; cases he⟩, Dk.new d m room, rfl, rfl, q1, Nat.le_refl _, ⟨rfl, rfl, rfl, rfl, rfl, fun s => rfl⟩⟩, q2⟩
end
end Go.Proofs.YtekoaheiapddiaaGreat.Dz
end
