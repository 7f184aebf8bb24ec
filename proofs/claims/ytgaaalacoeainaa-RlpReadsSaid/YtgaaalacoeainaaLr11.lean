/- The reference's Decode. -/
import Derived.Test.YtgaaalacoeainaaLr10
namespace Go.Proofs.Ytgaaalacoeainaa
open Go.RowKit

theorem xor8 {a b : Nat} (ha : a < 256) (hb : b < 256) : Go.bits .xor .u8 (a : Int) (b : Int) = ((a ^^^ b : Nat) : Int) := by
  have hx : a ^^^ b < 2 ^ 8 := Nat.xor_lt_two_pow (by omega) (by omega)
  have h1 : (BitVec.ofInt 8 (a : Int)).toNat = a := by
    rw [BitVec.ofInt_natCast, BitVec.toNat_ofNat]; exact Nat.mod_eq_of_lt (by omega)
  have h2 : (BitVec.ofInt 8 (b : Int)).toNat = b := by
    rw [BitVec.ofInt_natCast, BitVec.toNat_ofNat]; exact Nat.mod_eq_of_lt (by omega)
  show IntKind.u8.wrap ((BitVec.ofInt 8 (a : Int) ^^^ BitVec.ofInt 8 (b : Int)).toNat : Int) = _
  rw [BitVec.toNat_xor, h1, h2, IntKind.wrap_u8]
  omega
/-- What some bytes are decoded to; the error. -/
def itOf : Fo → It
  | .text s _ => .text s
  | .list i _ => .list i
  | .nil => .text []
theorem itOf_fo (x : It) : itOf (x.fo .nil) = x := by cases x <;> rfl
def decV (s : List UInt8) : It × Nat := if 65536 < s.length then (.text [], 3) else match decP s with
  | some f => (itOf f, 0)
  | none => (.text [], 2)
theorem decV_enc (s : List UInt8) : (decV s).1.enc.length ≤ 65536 := by
  unfold decV
  split
  · decide
  · next h =>
    split
    · next f hf =>
      have he := decP_enc hf
      have h1 : (itOf f).enc = f.enc := by
        unfold decP at hf
        split at hf
        · next g hg =>
          injection hf with hf
          subst hf
          obtain ⟨y, rfl⟩ := itemP_one _ _ _ _ hg
          rw [itOf_fo, It.enc_fo']
        · cases hf
      show (itOf f).enc.length ≤ 65536
      rw [h1, he]; omega
    · decide
/-- What a call of either Decode hands back. -/
def DecN (s : List UInt8) (w : World) (e : Ending) (w' : World) : Prop :=
  ∃ v, e = .returned (.tuple #[v, .int .i64 ((decV s).2 : Nat)]) ∧ ItV (fun k => w.heap.size ≤ k ∧ k < w'.heap.size) (decV s).1 v w' ∧ Below w.heap.size w w'
theorem decode_n (s : List UInt8) (w : World) : Calls Try.prog 21 #[.string (str s)] w (DecN s w) := by
  refine (decode_c s w).mono ?_
  rintro e w' ⟨hb, h⟩
  by_cases hl : 65536 < s.length
  · rw [if_pos hl] at h
    have hd : decV s = (.text [], 3) := if_pos hl
    exact ⟨_, by rw [hd]; exact h, by rw [hd]; rfl, hb⟩
  · rw [if_neg hl] at h
    cases hp : decP s with
    | none =>
      rw [hp] at h
      have hd : decV s = (.text [], 2) := by unfold decV; rw [if_neg hl, hp]
      exact ⟨_, by rw [hd]; exact h, by rw [hd]; rfl, hb⟩
    | some f =>
      rw [hp] at h
      obtain ⟨x, v, rfl, h2, h3⟩ := h
      have hd : decV s = (x, 0) := by unfold decV; rw [if_neg hl, hp]; simp only [itOf_fo]
      exact ⟨v, by rw [hd]; exact h2, by rw [hd]; exact h3, hb⟩
set_option maxRecDepth 100000 in
set_option maxHeartbeats 4000000 in
theorem rdecode_n (s : List UInt8) (w : World) : Calls Try.prog 22 #[.string (str s)] w (DecN s w) := by
  have hsz := str_size s
  by_cases hl : 65536 < s.length
  · have hli : (65536 : Int) < ((str s).size : Int) := by omega
    have hd : decV s = (.text [], 3) := if_pos hl
    have HF := Lib.hid (show DecN s w (.returned (.tuple #[.agg #[.bool false, .string ⟨#[]⟩, .slice none 0 0], .int .i64 3])) (w.alloc (.cells #[.bool false, .string ⟨#[]⟩, .slice none 0 0] 35)) from ⟨_, by rw [hd]; rfl, by rw [hd]; rfl, bel_al _ _⟩)
    clear hl hsz hd
    generalize str s = t at *
    go_enter Try.func22, Try.ntmps22
    go_wp2_with fail
    exact bodyPost_ret (v := .tuple #[.agg #[.bool false, .string ⟨#[]⟩, .slice none 0 0], .int .i64 3]) (by simp [results, Try.results22, go_sem]) rfl HF.out
  · have hli : ¬ (65536 : Int) < ((str s).size : Int) := by omega
    have HC := Lib.hid (fun W => rtake_c 65 0 s W rfl (by omega))
    cases hp : itemP 65 s with
    | none =>
      rw [hp] at HC
      have hd : decV s = (.text [], 2) := by unfold decV decP; rw [if_neg hl, hp]
      have HF := Lib.hid (show ∀ w', Below w.heap.size w w' → DecN s w (.returned (.tuple #[.agg #[.bool false, .string ⟨#[]⟩, .slice none 0 0], .int .i64 2])) w' from fun w' hb => ⟨_, by rw [hd]; rfl, by rw [hd]; rfl, hb⟩)
      have hbox := heap_alloc_new w (.cells #[.bool false, .string ⟨#[]⟩, .slice none 0 0] 35)
      have HB := Lib.hid (And.intro (bel_al w (.cells #[.bool false, .string ⟨#[]⟩, .slice none 0 0] 35)) hbox)
      clear hl hsz hd hp hbox
      generalize str s = t at *
      go_enter Try.func22, Try.ntmps22
      go_wp2_with fail
      go_at_call 41
      refine (HC.out _).mono ?_
      rintro e w1 ⟨hb1, rfl⟩
      have hres := (hb1.block _ (lt_of HB.out.2)).trans HB.out.2
      have hres2 := (Below.heap_alloc w1 (.cells #[.bool false, .string ⟨#[]⟩, .slice none 0 0] 35) _ (lt_of hres)).trans hres
      have hbel := (HB.out.1.trans (hb1.mono HB.out.1.size)).alloc (Nat.le_trans HB.out.1.size hb1.size) (.cells #[.bool false, .string ⟨#[]⟩, .slice none 0 0] 35)
      obtain ⟨_, x0, x1, x2⟩ := cells3 hres2
      have hset := heap_set3 hres2 (.bool false) (.string ⟨#[]⟩) (.slice none 0 0)
      have hbs := Lib.hid (below_set3 hbel (Nat.le_refl _) (.bool false) (.string ⟨#[]⟩) (.slice none 0 0))
      obtain ⟨⟨p0, p1, p2⟩, _⟩ := cells3 hset
      clear hset hbel hres hres2 hb1 HB HC
      go_wp2_with fail
      exact bodyPost_ret (v := .tuple #[.agg #[.bool false, .string ⟨#[]⟩, .slice none 0 0], .int .i64 2]) (by simp [results, Try.results22, go_sem, p0, p1, p2]) rfl (HF.out _ hbs.out)
    | some q =>
      obtain ⟨f, r⟩ := q
      rw [hp] at HC
      have hrl := itemP_lt hp
      obtain ⟨k1, hk1⟩ : ∃ k1, k1 = s.length - r.length := ⟨_, rfl⟩
      by_cases hr : r = []
      · have hki : ((k1 : Int) == ((str s).size : Int)) = true := by rw [beq_iff_eq, hsz, hk1, hr]; simp
        have hki2 : (k1 : Int) = ((str s).size : Int) := by rw [hsz, hk1, hr]; simp
        subst hr
        have HF := Lib.hid (show ∀ (x : It) (v : Value) w', f = x.fo .nil → ItV (fun k => w.heap.size ≤ k ∧ k < w'.heap.size) x v w' → Below w.heap.size w w' → DecN s w (.returned (.tuple #[v, .int .i64 0])) w' from fun x v w' hf hv hb => by
          have hd : decV s = (x, 0) := by unfold decV decP; rw [if_neg hl, hp, hf]; simp only [itOf_fo]
          exact ⟨v, by rw [hd]; rfl, by rw [hd]; exact hv, hb⟩)
        have hbox := heap_alloc_new w (.cells #[.bool false, .string ⟨#[]⟩, .slice none 0 0] 35)
        have HB := Lib.hid (And.intro (bel_al w (.cells #[.bool false, .string ⟨#[]⟩, .slice none 0 0] 35)) hbox)
        have HK := Lib.hid hk1
        clear hl hsz hp hbox hrl hk1
        generalize str s = t at *
        go_enter Try.func22, Try.ntmps22
        go_wp2_with fail
        go_at_call 41
        refine (HC.out _).mono ?_
        rintro e w1 ⟨hb1, x, v, hx, hv, rfl, _⟩
        rw [← HK.out]
        obtain ⟨b2, t2, a2, n2, q2, rfl⟩ := hv.form
        have hres := (hb1.block _ (lt_of HB.out.2)).trans HB.out.2
        have hres2 := (Below.heap_alloc w1 (.cells #[.bool b2, .string t2, .slice a2 n2 q2] 35) _ (lt_of hres)).trans hres
        have hnew := heap_alloc_new w1 (.cells #[.bool b2, .string t2, .slice a2 n2 q2] 35)
        have hbel := (HB.out.1.trans (hb1.mono HB.out.1.size)).alloc (Nat.le_trans HB.out.1.size hb1.size) (.cells #[.bool b2, .string t2, .slice a2 n2 q2] 35)
        obtain ⟨_, x0, x1, x2⟩ := cells3 hres2
        obtain ⟨⟨y0, y1, y2⟩, _⟩ := cells3 hnew
        have hset := heap_set3 hres2 (.bool b2) (.string t2) (.slice a2 n2 q2)
        have hbs := below_set3 hbel (Nat.le_refl _) (.bool b2) (.string t2) (.slice a2 n2 q2)
        have HG := Lib.hid (HF.out x _ _ hx (by
          refine (hv.kept (W' := ((((w1.alloc (.cells #[.bool b2, .string t2, .slice a2 n2 q2] 35)).setCell ⟨w.heap.size, 0, none⟩ (.bool b2)).setCell ⟨w.heap.size, 1, none⟩ (.string t2)).setCell ⟨w.heap.size, 2, none⟩ (.slice a2 n2 q2))) (fun i hi => ?_)).mono (fun i hi => ⟨by have := HB.out.1.size; omega, by simp [World.setCell]; omega⟩)
          have h1 := lt_of HB.out.2
          rw [heap_setCell_other _ _ _ _ (by simp; omega), heap_setCell_other _ _ _ _ (by simp; omega), heap_setCell_other _ _ _ _ (by simp; omega), Below.heap_alloc _ _ _ hi.2]) hbs)
        obtain ⟨⟨p0, p1, p2⟩, _⟩ := cells3 hset
        clear hset hbel hres hres2 hb1 HB HC hnew hbs hv hx HK
        go_wp2_with fail
        exact bodyPost_ret (v := .tuple #[.agg #[.bool b2, .string t2, .slice a2 n2 q2], .int .i64 0]) (by simp [results, Try.results22, go_sem, p0, p1, p2]) rfl HG.out
      · have hr0 : 0 < r.length := List.length_pos_iff.2 hr
        have hki : ((k1 : Int) == ((str s).size : Int)) = false := by rw [beq_eq_false_iff_ne, hsz, hk1]; omega
        have hki2 : ¬ (k1 : Int) = ((str s).size : Int) := by rw [hsz, hk1]; omega
        have hd : decV s = (.text [], 2) := by
          unfold decV decP
          rw [if_neg hl, hp]
          obtain ⟨c, r', rfl⟩ := List.exists_cons_of_ne_nil hr
          rfl
        have HF := Lib.hid (show ∀ w', Below w.heap.size w w' → DecN s w (.returned (.tuple #[.agg #[.bool false, .string ⟨#[]⟩, .slice none 0 0], .int .i64 2])) w' from fun w' hb => ⟨_, by rw [hd]; rfl, by rw [hd]; rfl, hb⟩)
        have hbox := heap_alloc_new w (.cells #[.bool false, .string ⟨#[]⟩, .slice none 0 0] 35)
        have HB := Lib.hid (And.intro (bel_al w (.cells #[.bool false, .string ⟨#[]⟩, .slice none 0 0] 35)) hbox)
        have HK := Lib.hid hk1
        clear hl hsz hd hp hbox hrl hk1 hr hr0
        generalize str s = t at *
        go_enter Try.func22, Try.ntmps22
        go_wp2_with fail
        go_at_call 41
        refine (HC.out _).mono ?_
        rintro e w1 ⟨hb1, x, v, hx, hv, rfl, _⟩
        rw [← HK.out]
        obtain ⟨b2, t2, a2, n2, q2, rfl⟩ := hv.form
        have hres := (hb1.block _ (lt_of HB.out.2)).trans HB.out.2
        have hres2 := (Below.heap_alloc w1 (.cells #[.bool b2, .string t2, .slice a2 n2 q2] 35) _ (lt_of hres)).trans hres
        have hbel := (HB.out.1.trans (hb1.mono HB.out.1.size)).alloc (Nat.le_trans HB.out.1.size hb1.size) (.cells #[.bool b2, .string t2, .slice a2 n2 q2] 35)
        obtain ⟨_, x0, x1, x2⟩ := cells3 hres2
        have hset := heap_set3 hres2 (.bool false) (.string ⟨#[]⟩) (.slice none 0 0)
        have hbs := Lib.hid (below_set3 hbel (Nat.le_refl _) (.bool false) (.string ⟨#[]⟩) (.slice none 0 0))
        obtain ⟨⟨p0, p1, p2⟩, _⟩ := cells3 hset
        clear hset hbel hres hres2 hb1 HB HC hv hx HK
        go_wp2_with fail
        exact bodyPost_ret (v := .tuple #[.agg #[.bool false, .string ⟨#[]⟩, .slice none 0 0], .int .i64 2]) (by simp [results, Try.results22, go_sem, p0, p1, p2]) rfl (HF.out _ hbs.out)
end Go.Proofs.Ytgaaalacoeainaa
