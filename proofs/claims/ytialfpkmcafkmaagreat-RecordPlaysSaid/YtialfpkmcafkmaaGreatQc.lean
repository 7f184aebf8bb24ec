/- Frames: texts in a row, told in a slice that grows. -/
import Derived.Test.YtialfpkmcafkmaaGreatQb
import Derived.Maps.AppendAt
namespace Go.Proofs.YtialfpkmcafkmaaGreat
open Go.RowKit
/-- One element of one cell more. -/
theorem wpList_append_one {ops : Array Oper} {rest : List Oper} {o : Oper} {a : Act} {Q : Exit → Act → World → Prop} {W : World} (hgd : o.guard = none) (s x : Operand) (ty e : TypeId)
    (ho : o.op = .call { callee := .builtin .append, args := #[s, x], argTypes := #[ty, ty] }) (hu : Tryz.prog.underlying ty = some (.slice e)) (z : Value) (bytes : Nat)
    (hinfo : (Tryz.prog.info? e).map (fun i => (i.zero, i.size, i.bytes)) = some (some z, 1, bytes)) (hz1 : z.cells.size = 1) (hby : bytes ≤ 48)
    (B : Nat) (v : Value) (n : Nat) (xs : List Value) (hs : a.eval s = v) (hown : W.ownsRow B e 1 v n xs) (q : Nat) (u : Value) (h1 : u.oneCell' = true) (hx : a.eval x = .slice (some ⟨q, 0, none⟩) 1 1) (hz : W.heap[q]? = some (.cells #[u] e (0, 0)))
    (hB : B ≤ W.heap.size) (hn : n < 1000000000)
    (hK : ∀ v' W', W'.ownsRow B e 1 v' (n + 1) (xs ++ [u]) → W.grownBy W' v.ownBlock → (v'.ownBlock = v.ownBlock ∨ v'.ownBlock = some W.heap.size) → wpList Tryz.prog ops Q rest (a.put o.dst v') W') : wpList Tryz.prog ops Q (o :: rest) a W := by
  obtain ⟨i0, hi, hz0, hzz, hz2⟩ := info_parts hinfo
  refine wpList_append_own_at W hgd s x ty ho B e i0 z 1 bytes hu hi hz0 hzz hz2 hz1 (by omega) v n xs hs hown ⟨q, 0, none⟩ 1 1 [u] hx rfl ?_ ?_ (by unfold maxLen; omega) ?_ hB fun v' W' h2 h3 _ h5 => hK v' W' h2 h3 h5
  · intro j u' hj
    have e : (⟨q, 0, none⟩ : Addr).add j = ⟨q, j, none⟩ := by unfold Addr.add; split <;> simp_all
    rw [e, cell_of hz]
    simpa using hj
  · intro u' hu'
    obtain rfl : u' = u := by simpa using hu'
    exact h1
  · exact Nat.le_trans (Nat.mul_le_mul_left (n + 1) hby) (by omega)

abbrev encS (t : List UInt8) : Value := .string (str t)
theorem infoS : (Tryz.prog.info? 9).map (fun i => (i.zero, i.size, i.bytes)) = some (some (.string ⟨#[]⟩), 1, 16) := by kernel_rfl
/-- A slice of texts, made from block B on. -/
def OwnS (B : Nat) (l : List (List UInt8)) (v : Value) (W : World) : Prop := W.ownsRow B 9 1 v l.length (l.map encS)
theorem OwnS.form {B : Nat} {l : List (List UInt8)} {v : Value} {W : World} (h : OwnS B l v W) : ∃ a c, v = .slice a l.length c := own_any h
theorem OwnS.lt {B : Nat} {l : List (List UInt8)} {v : Value} {W : World} (h : OwnS B l v W) {k : Nat} (hk : v.ownBlock = some k) : B ≤ k ∧ k < W.heap.size := World.ownsRow.lt h k hk
theorem OwnS.keep {B : Nat} {l : List (List UInt8)} {v : Value} {W W' : World} (h : OwnS B l v W) (hb : Below W.heap.size W W') : OwnS B l v W' := own_keep h fun k hk => hb.block k (h.lt hk).2
theorem below_grown {B : Nat} {W W' : World} {row : Option Nat} (h : W.grownBy W' row) (hr : ∀ k, row = some k → B ≤ k) (hB : B ≤ W.heap.size) : Below B W W' :=
  ⟨h.os, h.tape, h.output, h.size, fun k hk => h.block k (Nat.lt_of_lt_of_le hk hB) (fun e => by have := hr k e.symm; omega)⟩
/-- How much frames take. -/
theorem frs_len (l : List (List UInt8)) : 8 * l.length ≤ (frs l).length := by
  induction l with
  | nil => simp [frs]
  | cons t l ih => simp only [frs, List.length_append, fr_len, List.length_cons]; omega
set_option maxRecDepth 100000 in
set_option maxHeartbeats 1000000 in
theorem frames_c (s : List UInt8) (hs : s.length ≤ 1000000000) (w : World) : Calls Tryz.prog 16 #[.string (str s)] w fun e w' =>
    ∃ l r v, e = .returned (.tuple #[v, .int .i64 ((frs l).length : Nat)]) ∧ Fs s l r ∧ OwnS w.heap.size l v w' ∧ Below w.heap.size w w' := by
  have HX := Lib.hid hs
  have hsz := str_size s
  go_enter Tryz.func16, Tryz.ntmps16
  go_wp2_with fail
  go_loopw [2, 3] (fun v i wr => ∃ l r, s = frs l ++ r ∧ (∀ t ∈ l, t.length ≤ 65536) ∧ i = .int .i64 ((frs l).length : Nat) ∧ OwnS w.heap.size l v wr ∧ Below w.heap.size w wr) (fun _ i _ => s.length - (intOf i).toNat)
  case atStart => exact ⟨[], s, rfl, by simp, rfl, World.ownsRow_nil _ _ _ _, Below.refl _ _⟩
  case round =>
    obtain ⟨l, r, he, hall, rfl, hown, hb⟩ := hrel
    obtain ⟨va, vc, rfl⟩ := hown.form
    have hlen : s.length = (frs l).length + r.length := by rw [he, List.length_append]
    have hd : s.drop (frs l).length = r := by rw [he, List.drop_left]
    have hcut := str_drop s (frs l).length
    rw [hd, hsz] at hcut
    have hle : ((frs l).length : Int) ≤ (s.length : Int) := by omega
    have C1 := Lib.hid (fun W => first_c r (by have := HX.out; unfold maxLen; omega) W)
    have hln := frs_len l
    cases hf : firstP r with
    | none =>
      rw [hf, firstV] at C1
      have HR := Lib.hid (show Fs s l r ∧ OwnS w.heap.size l (.slice va l.length vc) wr ∧ Below w.heap.size w wr from ⟨⟨he, hall, hf⟩, hown, hb⟩)
      have HG := Lib.hid hcut
      clear he hall hown hb hf hlen hs hln hd hcut
      generalize str r = sr at *
      generalize str s = ss at *
      generalize s.length = n at *
      have hcut := HG.out
      go_wp2_with fail
      refine (C1.out _).mono ?_
      rintro e w1 ⟨rfl, h1⟩
      have B1 := Lib.hid h1; clear h1 C1
      go_wp2_with fail
      go_ret2
      exact ⟨l, r, _, rfl, HR.out.1, HR.out.2.1.keep B1.out, HR.out.2.2.trans (B1.out.mono HR.out.2.2.size)⟩
    | some t =>
      rw [hf, firstV] at C1
      obtain ⟨ht, r', hr'⟩ := firstP_some.1 hf
      have hrl : r.length = t.length + 8 + r'.length := by rw [hr', List.length_append, fr_len]
      have HN := Lib.hid (show s = frs (l ++ [t]) ++ r' ∧ (∀ u ∈ l ++ [t], u.length ≤ 65536) ∧ (frs (l ++ [t])).length = (frs l).length + (8 + t.length) from
        ⟨by rw [he, hr', frs_append, frs_one, List.append_assoc], fun u hu => by
          rcases List.mem_append.1 hu with h | h
          · exact hall u h
          · rw [List.mem_singleton.1 h]; exact ht, by rw [frs_append, frs_one, List.length_append, fr_len]; omega⟩)
      have HR := Lib.hid (show OwnS w.heap.size l (.slice va l.length vc) wr ∧ Below w.heap.size w wr from ⟨hown, hb⟩)
      have hst := str_size t
      have HL := Lib.hid (show (frs l).length + (8 + t.length) ≤ s.length ∧ l.length < 1000000000 from ⟨by omega, by have := HX.out; omega⟩)
      have hw : IntKind.i64.wrap (((frs l).length : Int) + (8 + (t.length : Int))) = ((frs l).length : Int) + (8 + (t.length : Int)) := IntWalk.i64_in _ (by have := HL.out; have := HX.out; omega)
      have hw2 : IntKind.i64.wrap (8 + (t.length : Int)) = 8 + (t.length : Int) := IntWalk.i64_in _ (by have := HL.out; have := HX.out; omega)
      have HG := Lib.hid hcut
      clear he hall hown hb hf hlen hs hln hd hcut hr' hrl ht
      generalize hsr : str r = sr at *
      generalize hst' : str t = st at *
      have HT := Lib.hid hst'
      clear hsr hst'
      generalize str s = ss at *
      generalize s.length = n at *
      have hcut := HG.out
      go_wp2_with fail
      refine (C1.out _).mono ?_
      rintro e w1 ⟨rfl, h1⟩
      have B1 := Lib.hid h1; clear h1 C1
      have HO := Lib.hid ((HR.out.1.keep B1.out).keep ((Below.refl _ _).alloc (Nat.le_refl _) (.cells #[.string st] 9)))
      have HB := Lib.hid ((HR.out.2.trans (B1.out.mono HR.out.2.size)).alloc (Nat.le_trans HR.out.2.size B1.out.size) (.cells #[.string st] 9))
      have HZ := Lib.hid (heap_alloc_new w1 (.cells #[.string st] 9))
      have HW := Lib.hid (show w.heap.size ≤ (w1.alloc (.cells #[.string st] 9)).heap.size by rw [alloc_size]; exact Nat.le_succ_of_le (Nat.le_trans HR.out.2.size B1.out.size))
      go_wp2_with (at_builtin; refine wpList_append_one rfl _ _ 41 9 rfl Tryz.underlying41 _ 16 infoS rfl (by omega) w.heap.size (.slice va l.length vc) l.length (l.map encS) (by rfl) HO.out w1.heap.size (.string st) rfl (by rfl) HZ.out HW.out HL.out.2 ?_; intro v2 W2 hown2 hgr _hbl; have HV := Lib.hid (And.intro hown2 hgr); clear hown2 hgr _hbl)
      have e2 := HN.out.2.2
      refine ⟨⟨l ++ [t], r', HN.out.1, HN.out.2.1, by rw [e2]; simp, ?_, ?_⟩, ?_⟩
      · unfold OwnS
        rw [List.length_append, List.map_append]
        have h := HV.out.1
        rw [← HT.out] at h
        exact h
      · exact HB.out.trans (below_grown HV.out.2 (fun k hk => (HO.out.lt hk).1) HW.out)
      · have := HL.out.1
        simp only [intOf]
        omega
/-- What All, or Frames, tells of a file's bytes. -/
theorem Fs.len {s : List UInt8} {l : List (List UInt8)} {r : List UInt8} (h : Fs s l r) : s.length = (frs l).length + r.length := by rw [h.eq, List.length_append]
end Go.Proofs.YtialfpkmcafkmaaGreat
