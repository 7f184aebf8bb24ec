/- Merged: Vg, Vh, Vi, Lr8, Lr9, Lr10, Lr11. -/
import Derived.Test.YtekoaheiapddiaaGreatU18
import Derived.Test.YtekoaheiapddiaaGreatU17
section
namespace Go.Proofs.YtekoaheiapddiaaGreat
open Go.RowKit

theorem lastOf_lt (s : ByteArray) (k : Nat) : lastOf s k < 256 ^ k := by
  induction k with
  | zero => simp [lastOf]
  | succ k ih =>
    simp only [lastOf]
    have h1 := byteAt_lt s (s.size - 1 - k)
    have h2 : byteAt s (s.size - 1 - k) * 256 ^ k ≤ 255 * 256 ^ k := Nat.mul_le_mul_right _ (by omega)
    rw [Nat.pow_succ]
    omega
theorem ofL_lt {s : List UInt8} (h : s.length ≤ 32) : ofL s < W256 := by
  unfold ofL
  refine Nat.lt_of_lt_of_le (lastOf_lt _ _) ?_
  rw [str_size]
  exact Nat.le_trans (Nat.pow_le_pow_right (by decide) h) (by decide)
theorem numO_some {f r : Fo} {v : Value} (h : numO f = some (v, r)) : ∃ n : Nat, v = .int .u64 n ∧ n < M64 ∧ r.enc.length ≤ f.enc.length := by
  cases f with
  | nil => cases h
  | list i q => cases h
  | text s q =>
    simp only [numO] at h
    split at h
    · rename_i hs
      simp only [Option.some.injEq, Prod.mk.injEq] at h
      obtain ⟨rfl, rfl⟩ := h
      refine ⟨_, rfl, ?_, by simp only [Fo.enc, List.length_append]; omega⟩
      have h8 := (smallL_ok hs).1
      have := val_lt s
      exact Nat.lt_of_lt_of_le this (Nat.le_trans (Nat.pow_le_pow_right (by decide) h8) (by unfold M64; decide))
    · cases h
theorem textO_some {f r : Fo} {v : Value} (h : textO f = some (v, r)) : ∃ t : List UInt8, v = .string (str t) ∧ r.enc.length ≤ f.enc.length := by
  cases f with
  | nil => cases h
  | list i q => simp only [textO, Option.some.injEq, Prod.mk.injEq] at h; obtain ⟨rfl, rfl⟩ := h; exact ⟨_, rfl, by simp only [Fo.enc, List.length_append]; omega⟩
  | text s q => simp only [textO, Option.some.injEq, Prod.mk.injEq] at h; obtain ⟨rfl, rfl⟩ := h; exact ⟨_, rfl, by simp only [Fo.enc, List.length_append]; omega⟩
theorem wordO_some {f r : Fo} {v : Value} (h : wordO f = some (v, r)) : ∃ n : Nat, v = wordV n ∧ n < W256 := by
  cases f with
  | nil => cases h
  | list i q => simp only [wordO, Option.some.injEq, Prod.mk.injEq] at h; obtain ⟨rfl, rfl⟩ := h; exact ⟨_, rfl, by decide⟩
  | text s q =>
    simp only [wordO] at h
    split at h
    · rename_i hs
      simp only [Option.some.injEq, Prod.mk.injEq] at h
      obtain ⟨rfl, rfl⟩ := h
      exact ⟨_, rfl, ofL_lt hs⟩
    · cases h
theorem numO_num {n : Nat} (h : n < M64) (r : Fo) : numO (.text (num n) r) = some (.int .u64 n, r) := by
  simp only [numO]
  rw [if_pos, val_num]
  unfold smallL
  have h1 := num8 h
  have h2 := num_head0 n
  simp only [Bool.and_eq_true, decide_eq_true_eq, bne_iff_ne, ne_eq]
  exact ⟨h1, h2⟩
theorem wordO_word {n : Nat} (h : n < W256) (r : Fo) : wordO (.text (wordL n) r) = some (wordV n, r) := by
  simp only [wordO]
  rw [if_pos (by rw [wordL_len]; exact Nat.le_refl _), ofL_word h]
theorem wordV_inj {m n : Nat} (hm : m < W256) (hn : n < W256) (h : wordV m = wordV n) : m = n := by
  unfold wordV at h
  simp only [Value.agg.injEq, Array.mk.injEq, List.cons.injEq, Value.int.injEq, true_and, and_true, Int.natCast_inj] at h
  rw [(dig_of hm).eq, (dig_of hn).eq, h.1, h.2.1, h.2.2.1, h.2.2.2]
/-- An ask's box, and the fields' block, as a call goes on. -/
structure Gt (S : Nat → Prop) (w : World) (g b0 : Nat) (cs : Array Value) (t : TypeId) (f : Fo) (V : World) : Prop where
  only : Only (fun k => k = g) w.heap.size w V
  box : V.heap[b0]? = some (.cells cs t (0, 0))
  fd : Fd S g f V
  ge : w.heap.size ≤ b0
  lt : g < w.heap.size
section
variable {S : Nat → Prop} {w V V' : World} {g b0 : Nat} {cs : Array Value} {t : TypeId} {f r : Fo}
theorem Gt.step (h : Gt S w g b0 cs t f V) (ho : Only (fun k => k = g) V.heap.size V V') (hf : Fd S g r V') : Gt S w g b0 cs t r V' :=
  ⟨h.only.trans (ho.mono h.only.size (fun _ _ k => k)), (ho.block b0 (lt_of h.box) (by have := h.ge; have := h.lt; omega)).trans h.box, hf, h.ge, h.lt⟩
theorem Gt.call (h : Gt S w g b0 cs t f V) (hb : Below V.heap.size V V') : Gt S w g b0 cs t f V' := h.step (Only.of_below hb) (h.fd.call hb)
theorem Gt.start (h : Fd S g f w) (cs : Array Value) (t : TypeId) : Gt S w g w.heap.size cs t f (w.alloc (.cells cs t)) := by
  have hb : Below w.heap.size w (w.alloc (.cells cs t)) := (Below.refl _ _).alloc (Nat.le_refl _) _
  exact ⟨Only.of_below hb, heap_alloc_new _ _, h.call hb, Nat.le_refl _, h.blt⟩
end
theorem set7 {w : World} {b : Nat} {v0 v1 v2 v3 v4 v5 v6 : Value} {t : TypeId} (h : w.heap[b]? = some (.cells #[v0, v1, v2, v3, v4, v5, v6] t (0, 0))) (u0 u1 u2 u3 u4 u5 u6 : Value) :
    (((((((w.setCell ⟨b, 0, none⟩ u0).setCell ⟨b, 1, none⟩ u1).setCell ⟨b, 2, none⟩ u2).setCell ⟨b, 3, none⟩ u3).setCell ⟨b, 4, none⟩ u4).setCell ⟨b, 5, none⟩ u5).setCell ⟨b, 6, none⟩ u6).heap[b]? = some (.cells #[u0, u1, u2, u3, u4, u5, u6] t (0, 0)) := by
  have e := heap_setCell_same _ _ 6 _ _ u6 (heap_setCell_same _ _ 5 _ _ u5 (heap_setCell_same _ _ 4 _ _ u4 (heap_setCell_same _ _ 3 _ _ u3 (heap_setCell_same _ _ 2 _ _ u2 (heap_setCell_same _ _ 1 _ _ u1 (heap_setCell_same _ _ 0 _ _ u0 h))))))
  simpa using e
theorem cells7 {w : World} {b : Nat} {v0 v1 v2 v3 v4 v5 v6 : Value} {t : TypeId} (h : w.heap[b]? = some (.cells #[v0, v1, v2, v3, v4, v5, v6] t (0, 0))) :
    (w.cell? ⟨b, 0, none⟩ = some v0 ∧ w.cell? ⟨b, 1, none⟩ = some v1 ∧ w.cell? ⟨b, 2, none⟩ = some v2 ∧ w.cell? ⟨b, 3, none⟩ = some v3 ∧ w.cell? ⟨b, 4, none⟩ = some v4 ∧ w.cell? ⟨b, 5, none⟩ = some v5 ∧ w.cell? ⟨b, 6, none⟩ = some v6) ∧
    (w.frozen? ⟨b, 0, none⟩ = false ∧ w.frozen? ⟨b, 1, none⟩ = false ∧ w.frozen? ⟨b, 2, none⟩ = false ∧ w.frozen? ⟨b, 3, none⟩ = false ∧ w.frozen? ⟨b, 4, none⟩ = false ∧ w.frozen? ⟨b, 5, none⟩ = false ∧ w.frozen? ⟨b, 6, none⟩ = false) :=
  ⟨⟨cell_of h 0, cell_of h 1, cell_of h 2, cell_of h 3, cell_of h 4, cell_of h 5, cell_of h 6⟩, free_of h 0, free_of h 1, free_of h 2, free_of h 3, free_of h 4, free_of h 5, free_of h 6⟩
/-- What 'ask' answers: it panics where no ask has these fields, else it is that ask, if one has them. -/
def AskR (g : Nat) (f : Fo) (w : World) (e : Ending) (w' : World) : Prop :=
  Only (fun k => k = g) w.heap.size w w' ∧ ((e = .panicked boom ∧ ∀ b : AskP, b.Wf → b.Ok → f ≠ b.fo) ∨ ∃ a : AskP, e = .returned (askV a) ∧ a.Wf ∧ ∀ b : AskP, b.Wf → b.Ok → f = b.fo → a = b)
theorem AskR.bad {g : Nat} {f : Fo} {w w' : World} {e : Ending} (h1 : Only (fun k => k = g) w.heap.size w w') (h2 : e = .panicked boom) (h3 : ∀ b : AskP, b.Wf → b.Ok → f ≠ b.fo) : AskR g f w e w' := ⟨h1, Or.inl ⟨h2, h3⟩⟩
theorem AskR.good {g : Nat} {f : Fo} {w w' : World} {e : Ending} (a : AskP) (h1 : Only (fun k => k = g) w.heap.size w w') (h2 : e = .returned (askV a)) (h3 : a.Wf) (h4 : ∀ b : AskP, b.Wf → b.Ok → f = b.fo → a = b) : AskR g f w e w' := ⟨h1, Or.inr ⟨a, h2, h3, h4⟩⟩
/-- An ask's items, one behind the other. -/
theorem ask_steps {b : AskP} (hw : b.Wf) (ho : b.Ok) : numO b.fo = some (.int .u64 b.id, .text (num b.kind.toNat) (.text b.addr (if b.kind = 2 then .text (wordL b.slot) .nil else .nil))) ∧
    numO (.text (num b.kind.toNat) (.text b.addr (if b.kind = 2 then .text (wordL b.slot) .nil else .nil))) = some (.int .u64 (b.kind.toNat : Nat), .text b.addr (if b.kind = 2 then .text (wordL b.slot) .nil else .nil)) ∧
    textO (.text b.addr (if b.kind = 2 then .text (wordL b.slot) .nil else .nil)) = some (.string (str b.addr), if b.kind = 2 then .text (wordL b.slot) .nil else .nil) ∧
    (b.kind = 2 → wordO (if b.kind = 2 then .text (wordL b.slot) .nil else .nil) = some (wordV b.slot, .nil)) ∧ (b.kind = 1 ∨ b.kind = 2) ∧ (b.kind = 1 → b.slot = 0) := by
  refine ⟨numO_num hw.id _, numO_num (by have := ho.2; unfold M64; omega) _, rfl, fun h => by rw [if_pos h]; exact wordO_word hw.slot _, ?_, ?_⟩
  · rcases ho.2 with h | h
    · exact Or.inr h
    · exact Or.inl h.1
  · intro h
    rcases ho.2 with h' | h'
    · omega
    · exact h'.2
end Go.Proofs.YtekoaheiapddiaaGreat
end
section
namespace Go.Proofs.YtekoaheiapddiaaGreat
open Go.RowKit
theorem enterN (args : Array Value) (w : World) : (callFunc 187 args).run Tryz.prog w = .ok (.enter 187 args) w := enters_of Tryz.func187 (by kernel_rfl) rfl args w
theorem enterT (args : Array Value) (w : World) : (callFunc 188 args).run Tryz.prog w = .ok (.enter 188 args) w := enters_of Tryz.func188 (by kernel_rfl) rfl args w
theorem enterW (args : Array Value) (w : World) : (callFunc 189 args).run Tryz.prog w = .ok (.enter 189 args) w := enters_of Tryz.func189 (by kernel_rfl) rfl args w
def fN (g : Nat) : Value := .func (.func 187) #[.pointer (some ⟨g, 0, none⟩)] #[]
def fT (g : Nat) : Value := .func (.func 188) #[.pointer (some ⟨g, 0, none⟩)] #[]
def fW (g : Nat) : Value := .func (.func 189) #[.pointer (some ⟨g, 0, none⟩)] #[]
set_option maxRecDepth 100000 in
set_option maxHeartbeats 4000000 in
theorem ask_c {S : Nat → Prop} {g : Nat} {f : Fo} {w : World} (h : Fd S g f w) (hl : f.enc.length ≤ 70000) : Calls Tryz.prog 148 #[fN g, fT g, fW g] w fun e w' => AskR g f w e w' := by
  have G0 := Lib.hid (Gt.start h #[.int .u64 0, .string ⟨#[]⟩, .int .u64 0, .int .u64 0, .int .u64 0, .int .u64 0, .int .i64 0] 117)
  have HL := Lib.hid hl
  have eN := enterN
  have eT := enterT
  have eW := enterW
  clear h hl
  unfold fN fT fW
  go_enter Tryz.func148, Tryz.ntmps148
  go_wp2_with fail
  refine (number_f G0.out.fd HL.out).mono ?_
  rintro e w1 ⟨ho, h1⟩
  cases e1 : numO f with
  | none =>
    rw [e1] at h1
    obtain rfl : e = .panicked boom := h1
    exact ⟨rfl, AskR.bad (G0.out.only.trans (ho.mono G0.out.only.size (fun _ _ k => k))) rfl (fun b hw hb hf => by rw [hf, (ask_steps hw hb).1] at e1; cases e1)⟩
  | some q =>
    obtain ⟨v1, f1⟩ := q
    rw [e1] at h1
    obtain ⟨rfl, hf1⟩ := h1
    obtain ⟨n1, rfl, hn1, hl1⟩ := numO_some e1
    have G1 := Lib.hid (G0.out.step ho hf1)
    have HL1 := Lib.hid (show f1.enc.length ≤ 70000 by have := HL.out; omega)
    have E1 := Lib.hid e1
    have HN1 := Lib.hid hn1
    clear ho hf1 hl1 e1 hn1 G0
    go_wp2_with fail
    refine (number_f G1.out.fd HL1.out).mono ?_
    rintro e w2 ⟨ho, h1⟩
    cases e2 : numO f1 with
    | none =>
      rw [e2] at h1
      obtain rfl : e = .panicked boom := h1
      exact ⟨rfl, AskR.bad (G1.out.only.trans (ho.mono G1.out.only.size (fun _ _ k => k))) rfl (fun b hw hb hf => by
        have h := E1.out
        rw [hf, (ask_steps hw hb).1] at h
        simp only [Option.some.injEq, Prod.mk.injEq] at h
        rw [← h.2, (ask_steps hw hb).2.1] at e2
        cases e2)⟩
    | some q =>
      obtain ⟨v2, f2⟩ := q
      rw [e2] at h1
      obtain ⟨rfl, hf1⟩ := h1
      obtain ⟨n2, rfl, hn2, hl1⟩ := numO_some e2
      have G2 := Lib.hid (G1.out.step ho hf1)
      have HL2 := Lib.hid (show f2.enc.length ≤ 70000 by have := HL1.out; omega)
      have E2 := Lib.hid e2
      have HN2 := Lib.hid hn2
      clear ho hf1 hl1 e2 hn2 G1
      go_wp2_with fail
      refine (text_f G2.out.fd HL2.out).mono ?_
      rintro e w3 ⟨ho, h1⟩
      cases e3 : textO f2 with
      | none =>
        rw [e3] at h1
        obtain rfl : e = .panicked boom := h1
        exact ⟨rfl, AskR.bad (G2.out.only.trans (ho.mono G2.out.only.size (fun _ _ k => k))) rfl (fun b hw hb hf => by
          have h := E1.out
          rw [hf, (ask_steps hw hb).1] at h
          simp only [Option.some.injEq, Prod.mk.injEq] at h
          have h2 := E2.out
          rw [← h.2, (ask_steps hw hb).2.1] at h2
          simp only [Option.some.injEq, Prod.mk.injEq] at h2
          rw [← h2.2, (ask_steps hw hb).2.2.1] at e3
          cases e3)⟩
      | some q =>
        obtain ⟨v3, f3⟩ := q
        rw [e3] at h1
        obtain ⟨rfl, hf1⟩ := h1
        obtain ⟨t3, rfl, hl1⟩ := textO_some e3
        have G3 := Lib.hid (G2.out.step ho hf1)
        have HL3 := Lib.hid (show f3.enc.length ≤ 70000 by have := HL2.out; omega)
        have HT := Lib.hid (fun (b : AskP) (hw : b.Wf) (hb : b.Ok) (hf : f = b.fo) => show n1 = b.id ∧ (n2 : Int) = b.kind ∧ t3 = b.addr ∧ f3 = (if b.kind = 2 then .text (wordL b.slot) .nil else .nil) from by
          have h := E1.out
          rw [hf, (ask_steps hw hb).1] at h
          simp only [Option.some.injEq, Prod.mk.injEq, Value.int.injEq, true_and, Int.natCast_inj] at h
          have h2 := E2.out
          rw [← h.2, (ask_steps hw hb).2.1] at h2
          simp only [Option.some.injEq, Prod.mk.injEq, Value.int.injEq, true_and, Int.natCast_inj] at h2
          have h3 := e3
          rw [← h2.2, (ask_steps hw hb).2.2.1] at h3
          simp only [Option.some.injEq, Prod.mk.injEq, Value.string.injEq] at h3
          have hk := hb.2
          exact ⟨h.1.symm, by omega, (str_inj h3.1).symm, h3.2.symm⟩)
        have HW := Lib.hid (And.intro HN1.out HN2.out)
        clear ho hf1 hl1 e3 G2 E1 E2 HN1 HN2
        have hz2 : (n2 = 1 → wrap64 (n2 : Int) = 1) ∧ (n2 = 2 → wrap64 (n2 : Int) = 2) := ⟨fun h => by rw [h]; unfold wrap64; omega, fun h => by rw [h]; unfold wrap64; omega⟩
        have hzb : -9223372036854775808 ≤ wrap64 (n2 : Int) ∧ wrap64 (n2 : Int) ≤ 9223372036854775807 := by unfold wrap64; omega
        generalize wrap64 (n2 : Int) = kz at *
        have HZ := Lib.hid (And.intro hz2 hzb)
        clear hz2 hzb
        by_cases hk : kz = 2
        · subst hk
          have hal : Below w3.heap.size w3 (w3.alloc (.cells #[.int .u64 n1, .string (str t3), .int .u64 0, .int .u64 0, .int .u64 0, .int .u64 0, .int .i64 2] 117)) := (Below.refl _ _).alloc (Nat.le_refl _) _
          have G4 := Lib.hid (G3.out.call hal)
          have N4 := Lib.hid (heap_alloc_new w3 (.cells #[.int .u64 n1, .string (str t3), .int .u64 0, .int .u64 0, .int .u64 0, .int .u64 0, .int .i64 2] 117))
          have hgl : g < w3.heap.size := Nat.lt_of_lt_of_le G3.out.lt G3.out.only.size
          have hbl := lt_of G3.out.box
          have hge3 := G3.out.only.size
          clear hal
          go_wp2_with fail
          refine (word_f G4.out.fd HL3.out).mono ?_
          rintro e w4 ⟨ho, h1⟩
          cases e4 : wordO f3 with
          | none =>
            rw [e4] at h1
            obtain rfl : e = .panicked boom := h1
            exact ⟨rfl, AskR.bad (G4.out.only.trans (ho.mono G4.out.only.size (fun _ _ k => k))) rfl (fun b hw hb hf => by
              obtain ⟨_, q2, _, q4⟩ := HT.out b hw hb hf
              have hs := ask_steps hw hb
              have hk : b.kind = 2 := by
                rcases hs.2.2.2.2.1 with h | h
                · have := HZ.out.1.1 (by omega); omega
                · exact h
              have h5 := hs.2.2.2.1 hk
              rw [← q4, e4] at h5
              cases h5)⟩
          | some q =>
            obtain ⟨v4, f4⟩ := q
            rw [e4] at h1
            obtain ⟨rfl, hf1⟩ := h1
            obtain ⟨n4, rfl, hn4⟩ := wordO_some e4
            have G5 := Lib.hid (G4.out.step ho hf1)
            have N5 := (ho.block w3.heap.size (by simp) (by omega)).trans N4.out
            have HE := Lib.hid (And.intro e4 hn4)
            clear ho hf1 e4 hn4
            unfold wordV
            -- the cells of both boxes behind the store
            have k5 := G5.out.box
            obtain ⟨_, z0, z1, z2, z3, z4, z5, z6⟩ := cells7 N5
            obtain ⟨⟨p0, p1, p2, p3, p4, p5, p6⟩, _⟩ := cells7 N5
            have N6 : ((((w4.setCell ⟨w3.heap.size, 2, none⟩ (.int .u64 (l3 n4 : Nat))).setCell ⟨w3.heap.size, 3, none⟩ (.int .u64 (l2 n4 : Nat))).setCell ⟨w3.heap.size, 4, none⟩ (.int .u64 (l1 n4 : Nat))).setCell ⟨w3.heap.size, 5, none⟩ (.int .u64 (l0 n4 : Nat))).heap[w3.heap.size]? = some (.cells #[.int .u64 n1, .string (str t3), .int .u64 (l3 n4 : Nat), .int .u64 (l2 n4 : Nat), .int .u64 (l1 n4 : Nat), .int .u64 (l0 n4 : Nat), .int .i64 2] 117 (0, 0)) := by
              have e := heap_setCell_same _ _ 5 _ _ (.int .u64 (l0 n4 : Nat)) (heap_setCell_same _ _ 4 _ _ (.int .u64 (l1 n4 : Nat)) (heap_setCell_same _ _ 3 _ _ (.int .u64 (l2 n4 : Nat)) (heap_setCell_same _ _ 2 _ _ (.int .u64 (l3 n4 : Nat)) N5)))
              simpa using e
            have K6 : ((((w4.setCell ⟨w3.heap.size, 2, none⟩ (.int .u64 (l3 n4 : Nat))).setCell ⟨w3.heap.size, 3, none⟩ (.int .u64 (l2 n4 : Nat))).setCell ⟨w3.heap.size, 4, none⟩ (.int .u64 (l1 n4 : Nat))).setCell ⟨w3.heap.size, 5, none⟩ (.int .u64 (l0 n4 : Nat))).heap[w.heap.size]? = some (.cells #[.int .u64 0, .string ⟨#[]⟩, .int .u64 0, .int .u64 0, .int .u64 0, .int .u64 0, .int .i64 0] 117 (0, 0)) := by
              rw [heap_setCell_other _ _ _ _ (by simp; omega), heap_setCell_other _ _ _ _ (by simp; omega), heap_setCell_other _ _ _ _ (by simp; omega), heap_setCell_other _ _ _ _ (by simp; omega)]
              exact k5
            have O6 : Only (fun k => k = g) w.heap.size w ((((w4.setCell ⟨w3.heap.size, 2, none⟩ (.int .u64 (l3 n4 : Nat))).setCell ⟨w3.heap.size, 3, none⟩ (.int .u64 (l2 n4 : Nat))).setCell ⟨w3.heap.size, 4, none⟩ (.int .u64 (l1 n4 : Nat))).setCell ⟨w3.heap.size, 5, none⟩ (.int .u64 (l0 n4 : Nat))) :=
              (((G5.out.only.setCell (p := ⟨w3.heap.size, 2, none⟩) (Or.inl hge3) _).setCell (p := ⟨w3.heap.size, 3, none⟩) (Or.inl hge3) _).setCell (p := ⟨w3.heap.size, 4, none⟩) (Or.inl hge3) _).setCell (p := ⟨w3.heap.size, 5, none⟩) (Or.inl hge3) _
            obtain ⟨⟨a0, a1, a2, a3, a4, a5, a6⟩, _⟩ := cells7 N6
            obtain ⟨⟨b0, b1, b2, b3, b4, b5, b6⟩, y0, y1, y2, y3, y4, y5, y6⟩ := cells7 K6
            have H6 := Lib.hid (And.intro K6 O6)
            clear N6 K6 O6 k5 N5 hgl hbl
            go_wp2_with fail
            refine bodyPost_ret (results_cell_row Tryz.results148 _ _ _ _ _ _ _ rfl (set7 H6.out.1 _ _ _ _ _ _ _) Tryz.underlying117 rfl (by kernel_rfl)) rfl (AskR.good ⟨n1, t3, n4, 2⟩ ?_ rfl ⟨HW.out.1, HE.out.2, (show (-9223372036854775808 : Int) ≤ 2 ∧ (2 : Int) ≤ 9223372036854775807 by decide)⟩ ?_)
            · exact ((((((H6.out.2.setCell (p := ⟨w.heap.size, 0, none⟩) (Or.inl (Nat.le_refl _)) _).setCell (p := ⟨w.heap.size, 1, none⟩) (Or.inl (Nat.le_refl _)) _).setCell (p := ⟨w.heap.size, 2, none⟩) (Or.inl (Nat.le_refl _)) _).setCell (p := ⟨w.heap.size, 3, none⟩) (Or.inl (Nat.le_refl _)) _).setCell (p := ⟨w.heap.size, 4, none⟩) (Or.inl (Nat.le_refl _)) _).setCell (p := ⟨w.heap.size, 5, none⟩) (Or.inl (Nat.le_refl _)) _).setCell (p := ⟨w.heap.size, 6, none⟩) (Or.inl (Nat.le_refl _)) _
            · intro b hw hb hf
              obtain ⟨q1, q2, q3, q4⟩ := HT.out b hw hb hf
              have hs := ask_steps hw hb
              have hk : b.kind = 2 := by
                rcases hs.2.2.2.2.1 with h | h
                · have := HZ.out.1.1 (by omega); omega
                · exact h
              have h5 := hs.2.2.2.1 hk
              rw [← q4, HE.out.1] at h5
              simp only [Option.some.injEq, Prod.mk.injEq] at h5
              have e4 := wordV_inj HE.out.2 hw.slot h5.1
              obtain ⟨i, ad, sl, kd⟩ := b
              simp only at q1 q3 hk e4
              rw [q1, q3, hk, e4]
        · have hkb : (kz == 2) = false := by simp [hk]
          have kb := (Below.heap_alloc w3 (.cells #[.int .u64 n1, .string (str t3), .int .u64 0, .int .u64 0, .int .u64 0, .int .u64 0, .int .i64 kz] 117) _ (lt_of G3.out.box)).trans G3.out.box
          obtain ⟨⟨b0, b1, b2, b3, b4, b5, b6⟩, y0, y1, y2, y3, y4, y5, y6⟩ := cells7 kb
          have H6 := Lib.hid (And.intro kb (G3.out.only.alloc G3.out.only.size (.cells #[.int .u64 n1, .string (str t3), .int .u64 0, .int .u64 0, .int .u64 0, .int .u64 0, .int .i64 kz] 117)))
          clear kb
          go_wp2_with fail
          refine bodyPost_ret (results_cell_row Tryz.results148 _ _ _ _ _ _ _ rfl (set7 H6.out.1 _ _ _ _ _ _ _) Tryz.underlying117 rfl (by kernel_rfl)) rfl (AskR.good ⟨n1, t3, 0, kz⟩ ?_ (by unfold askV; simp [lim_zero]) ⟨HW.out.1, (show 0 < W256 by decide), HZ.out.2⟩ ?_)
          · exact ((((((H6.out.2.setCell (p := ⟨w.heap.size, 0, none⟩) (Or.inl (Nat.le_refl _)) _).setCell (p := ⟨w.heap.size, 1, none⟩) (Or.inl (Nat.le_refl _)) _).setCell (p := ⟨w.heap.size, 2, none⟩) (Or.inl (Nat.le_refl _)) _).setCell (p := ⟨w.heap.size, 3, none⟩) (Or.inl (Nat.le_refl _)) _).setCell (p := ⟨w.heap.size, 4, none⟩) (Or.inl (Nat.le_refl _)) _).setCell (p := ⟨w.heap.size, 5, none⟩) (Or.inl (Nat.le_refl _)) _).setCell (p := ⟨w.heap.size, 6, none⟩) (Or.inl (Nat.le_refl _)) _
          · intro b hw hb hf
            obtain ⟨q1, q2, q3, q4⟩ := HT.out b hw hb hf
            have hs := ask_steps hw hb
            have hk1 : b.kind = 1 := by
              rcases hs.2.2.2.2.1 with h | h
              · exact h
              · exact absurd (HZ.out.1.2 (by omega)) hk
            have hkz : kz = 1 := HZ.out.1.1 (by omega)
            have h0 := hs.2.2.2.2.2 hk1
            obtain ⟨i, ad, sl, kd⟩ := b
            simp only at q1 q3 hk1 h0
            rw [q1, q3, hk1, h0, hkz]
end Go.Proofs.YtekoaheiapddiaaGreat
end
section
namespace Go.Proofs.YtekoaheiapddiaaGreat
open Go.RowKit

set_option maxRecDepth 100000 in
set_option maxHeartbeats 2000000 in
theorem acatch_panicking (a b : Nat) (v0 v1 v2 v3 v4 v5 v6 v7 : Value) (u : TypeId) (pv : Value) (older : List PanicEntry) (w : World) (ha : w.heap[a]? = some (.cells #[v0, v1, v2, v3, v4, v5, v6] 117 (0, 0))) (hb : w.heap[b]? = some (.cells #[v7] 4 (0, 0))) (hab : a ≠ b) :
    CallsD Tryz.prog 185 #[.pointer (some ⟨a, 0, none⟩), .pointer (some ⟨b, 0, none⟩)] (.panicking ({ v := .iface u pv, recovered := false } :: older)) w fun e u' w' =>
      e = .returned (.tuple #[]) ∧ u' = .panicking ({ v := .iface u pv, recovered := true } :: older) ∧
        w' = ((((((((w.alloc (.cells #[.int .u64 0, .string ⟨#[]⟩, .int .u64 0, .int .u64 0, .int .u64 0, .int .u64 0, .int .i64 0] 117)).setCell ⟨a, 0, none⟩ (.int .u64 0)).setCell ⟨a, 1, none⟩ (.string ⟨#[]⟩)).setCell ⟨a, 2, none⟩ (.int .u64 0)).setCell ⟨a, 3, none⟩ (.int .u64 0)).setCell ⟨a, 4, none⟩ (.int .u64 0)).setCell ⟨a, 5, none⟩ (.int .u64 0)).setCell ⟨a, 6, none⟩ (.int .i64 0)).setCell ⟨b, 0, none⟩ (.bool false) := by
  have ha' := (Below.heap_alloc w (.cells #[.int .u64 0, .string ⟨#[]⟩, .int .u64 0, .int .u64 0, .int .u64 0, .int .u64 0, .int .i64 0] 117) _ (lt_of ha)).trans ha
  have hb' := (Below.heap_alloc w (.cells #[.int .u64 0, .string ⟨#[]⟩, .int .u64 0, .int .u64 0, .int .u64 0, .int .u64 0, .int .i64 0] 117) _ (lt_of hb)).trans hb
  have hn := heap_alloc_new w (.cells #[.int .u64 0, .string ⟨#[]⟩, .int .u64 0, .int .u64 0, .int .u64 0, .int .u64 0, .int .i64 0] 117)
  obtain ⟨⟨c0, c1, c2, c3, c4, c5, c6⟩, z0, z1, z2, z3, z4, z5, z6⟩ := cells7 ha'
  obtain ⟨⟨d0, d1, d2, d3, d4, d5, d6⟩, _⟩ := cells7 hn
  have c7 := cell_of hb' 0
  have z7 := free_of hb' 0
  refine callsD_of_wpS Tryz.func185 rfl fun c₀ cs hu => ?_
  apply wpS_seq
  apply wpS_region
  simp [wpOpsS, go_sem, recoverD, hu, Tryz.ntmps185, Exit.thenS]
  refine wpS_cond (t := true) (by simp [Act.eval, Array.replicate]) ?_
  simp only [if_true]
  have c7' : (w.alloc (.cells #[.int .u64 0, .string ⟨#[]⟩, .int .u64 0, .int .u64 0, .int .u64 0, .int .u64 0, .int .i64 0] 117)).cell? ⟨b, 0, none⟩ = some v7 := c7
  have hab' : ¬ b = a := fun e => hab e.symm
  clear ha hb ha' hb' hn
  first | apply wpS_seq | skip
  apply wpS_region
  simp [wpOpsS, go_sem, Exit.thenS]
  try apply wpS_region
  simp [wpOpsS, go_sem, c0, c1, c2, c3, c4, c5, c6, z0, z1, z2, z3, z4, z5, z6, d0, d1, d2, d3, d4, d5, d6, c7', z7, bodyPostS, results, Tryz.results185]
theorem acatch_idle (p q : Value) (w : World) :
    CallsD Tryz.prog 185 #[p, q] .returning w fun e u' w' => e = .returned (.tuple #[]) ∧ u' = .returning ∧ w' = w := by
  refine callsD_of_wpS Tryz.func185 rfl fun c₀ cs hu => ?_
  apply wpS_seq
  apply wpS_region
  simp [wpOpsS, go_sem, recoverD, hu, Tryz.ntmps185, Exit.thenS]
  refine wpS_cond (t := false) (by simp [Act.eval, Array.replicate]) ?_
  simp only [Bool.false_eq_true, if_false]
  refine wpS_of_wp (wp_skip ?_)
  cases c₀
  simp_all [bodyPostS, results, Tryz.results185]
end Go.Proofs.YtekoaheiapddiaaGreat
end
section
namespace Go.Proofs.YtekoaheiapddiaaGreat
open Go.RowKit

/-- What some bytes are decoded to; the error. -/
def itOf : Fo → It
  | .text s _ => .text s
  | .list i _ => .list i
  | .nil => .text []
theorem itOf_fo (x : It) : itOf (x.fo .nil) = x := by cases x <;> rfl
def decV (s : List UInt8) : It × Nat := if 65536 < s.length then (.text [], 3) else match decP s with
  | some f => (itOf f, 0)
  | none => (.text [], 2)
theorem decV_enc (s : List UInt8) : (decV s).1.enc.length ≤ 65536 := by
  unfold decV
  split
  · decide
  · next h =>
    split
    · next f hf =>
      have he := decP_enc hf
      have h1 : (itOf f).enc = f.enc := by
        unfold decP at hf
        split at hf
        · next g hg =>
          injection hf with hf
          subst hf
          obtain ⟨y, rfl⟩ := itemP_one _ _ _ _ hg
          rw [itOf_fo, It.enc_fo']
        · cases hf
      show (itOf f).enc.length ≤ 65536
      rw [h1, he]; omega
    · decide
/-- What a call of either Decode hands back. -/
def DecN (s : List UInt8) (w : World) (e : Ending) (w' : World) : Prop :=
  ∃ v, e = .returned (.tuple #[v, .int .i64 ((decV s).2 : Nat)]) ∧ ItV (fun k => w.heap.size ≤ k ∧ k < w'.heap.size) (decV s).1 v w' ∧ Below w.heap.size w w'
theorem decode_n (s : List UInt8) (w : World) : Calls Tryz.prog 103 #[.string (str s)] w (DecN s w) := by
  refine (decode_c s w).mono ?_
  rintro e w' ⟨hb, h⟩
  by_cases hl : 65536 < s.length
  · rw [if_pos hl] at h
    have hd : decV s = (.text [], 3) := if_pos hl
    exact ⟨_, by rw [hd]; exact h, by rw [hd]; rfl, hb⟩
  · rw [if_neg hl] at h
    cases hp : decP s with
    | none =>
      rw [hp] at h
      have hd : decV s = (.text [], 2) := by unfold decV; rw [if_neg hl, hp]
      exact ⟨_, by rw [hd]; exact h, by rw [hd]; rfl, hb⟩
    | some f =>
      rw [hp] at h
      obtain ⟨x, v, rfl, h2, h3⟩ := h
      have hd : decV s = (x, 0) := by unfold decV; rw [if_neg hl, hp]; simp only [itOf_fo]
      exact ⟨v, by rw [hd]; exact h2, by rw [hd]; exact h3, hb⟩
end Go.Proofs.YtekoaheiapddiaaGreat
end
