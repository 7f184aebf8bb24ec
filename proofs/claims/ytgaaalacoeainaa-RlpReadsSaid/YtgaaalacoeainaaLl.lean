/- The sums: a text, a list's end. -/
import Derived.Test.YtgaaalacoeainaaLk
import Derived.Deep.QuietTactic
import Derived.BigQuiet
namespace Go.Proofs.Ytgaaalacoeainaa
open Go.RowKit

theorem SuS.calm {b B : Nat} {s : List Nat × List Nat} {W W' : World} (h : SuS b B s W) (hb : Below W.heap.size W W') : SuS b B s W' ∧ Chg (SuF b W) (SuF b W') W W' := by
  obtain ⟨h1, h2⟩ := h.kept fun k hk => hb.block k (h.ftlt k hk)
  exact ⟨h1, hb.os, hb.tape, hb.output, hb.size, fun k hk _ => hb.block k hk, fun k hk => Or.inl ((h2 k).1 hk)⟩
theorem hd_len (k n : Nat) : (hd k n).length ≤ 1 + (num n).length := by
  unfold hd
  split <;> simp; omega
theorem encT_len (s : List UInt8) : (encT s).length = (hdT s).length + s.length := by simp [encT]
set_option maxRecDepth 100000 in
set_option maxHeartbeats 1000000 in
theorem stext_c {b B : Nat} {z o : List Nat} {p : Nat} {W : World} (h : SuS b B (z, p :: o) W) (hp : p < z.length) (t : List UInt8) (hn : z[p]'hp + (encT t).length < 4611686018427387904) (hol : o.length < 1000000) :
    Calls Try.prog 27 #[.pointer (some ⟨b, 0, none⟩), .string (str t)] W fun e W' => e = .returned (.tuple #[]) ∧ SuS b B (z.set p (z[p]'hp + (encT t).length), p :: o) W' ∧ Chg (SuF b W) (SuF b W') W W' := by
  have hl := encT_len t
  have HT := Lib.hid (fun W => headOf_c t (by omega) W)
  have hs1 := str_size t
  have hs2 := str_size (hdT t)
  have HA := Lib.hid (fun W1 (h1 : SuS b B (z, p :: o) W1) => add_c h1 hp (encT t).length (by omega) hol)
  have H := Lib.hid h
  clear h
  generalize str t = x at *
  generalize str (hdT t) = y at *
  have hb : (y.size : Int) + (x.size : Int) < 4611686018427387904 := by omega
  have he : (((encT t).length : Nat) : Int) = (y.size : Int) + (x.size : Int) := by omega
  rw [he] at HA
  clear hs1 hs2 hl he hn
  go_enter Try.func27, Try.ntmps27
  go_wp2_with (first
    | (go_at_call 45; refine (HT.out _).mono ?_; rintro e W1 ⟨rfl, hb1⟩; have H1 := Lib.hid (H.out.calm hb1); clear hb1)
    | (go_at_call 44; refine (HA.out _ H1.out.1).mono ?_; rintro e W2 ⟨rfl, h2, h3⟩; have H2 := Lib.hid (And.intro h2 (H1.out.2.trans h3)); clear h2 h3))
  go_end0
  exact ⟨rfl, H2.out⟩
theorem SuS.pop {b B : Nat} {z o : List Nat} {p m g cap : Nat} {v1 : Value} {W : World} (h : SuS b B (z, p :: o) W) (hm : o.length = m) (h1 : W.heap[b]? = some (.cells #[v1, .slice (some ⟨g, 0, none⟩) (m + 1) cap] 61 (0, 0)))
    (h2 : W.ownsRow B 3 1 v1 z.length (ints z)) (h3 : W.ownsRow B 3 1 (.slice (some ⟨g, 0, none⟩) (m + 1) cap) (m + 1) (ints (p :: o).reverse)) (h4 : v1.ownBlock = none ∨ v1.ownBlock ≠ some g) (hg : B ≤ g) :
    SuS b B (z, o) (W.setCell ⟨b, 1, none⟩ (.slice (some ⟨g, 0, none⟩) m cap)) ∧ Chg (SuF b W) (SuF b (W.setCell ⟨b, 1, none⟩ (.slice (some ⟨g, 0, none⟩) m cap))) W (W.setCell ⟨b, 1, none⟩ (.slice (some ⟨g, 0, none⟩) m cap)) := by
  have hlt := h.lt
  have hk : ∀ k, k ≠ b → (W.setCell ⟨b, 1, none⟩ (.slice (some ⟨g, 0, none⟩) m cap)).heap[k]? = W.heap[k]? := fun k hk => heap_setCell_other _ _ _ _ (by simpa using hk)
  have e : ints (p :: o).reverse = ints o.reverse ++ [.int .i64 (p : Nat)] := by simp [ints]
  rw [e] at h3
  refine h.turn (v1' := v1) (v2' := .slice (some ⟨g, 0, none⟩) m cap) h1 (fun k _ h2 _ _ => hk k h2) (by simp [World.setCell]) rfl rfl rfl (heap_set1 h1 _).2 (own_keep h2 fun k hv => hk k (by have := (h2.lt k hv).1; omega)) ?_ h4 (fun k hk => Or.inl hk)
  show World.ownsRow _ _ _ _ _ o.length _
  rw [hm]
  refine own_keep (own_pop h3) fun k hv => hk k ?_
  have : g = k := by simpa [Value.ownBlock] using hv
  omega
set_option maxRecDepth 100000 in
set_option maxHeartbeats 2000000 in
theorem send_c {b B : Nat} {z o : List Nat} {p p' : Nat} {W : World} (h : SuS b B (z, p :: p' :: o) W) (hp : p < z.length) (hp' : p' < z.length) (hn : z[p']'hp' + ((hd 192 (z[p]'hp)).length + z[p]'hp) < 4611686018427387904) (hol : o.length < 900000) :
    Calls Try.prog 28 #[.pointer (some ⟨b, 0, none⟩)] W fun e W' => e = .returned (.tuple #[]) ∧ SuS b B (z.set p' (z[p']'hp' + ((hd 192 (z[p]'hp)).length + z[p]'hp)), p' :: o) W' ∧ Chg (SuF b W) (SuF b W') W W' := by
  obtain ⟨v1, v2, h1, h2, h3, h4⟩ := h.row
  obtain ⟨k, hk⟩ : ∃ k, z.length = k + 1 := ⟨z.length - 1, by omega⟩
  have h2' := h2
  simp only [hk] at h2'
  obtain ⟨g1, cap1, rfl, b1, b2, b3⟩ := own_form h2'
  obtain ⟨m, hm⟩ : ∃ m, (p' :: o).length = m := ⟨_, rfl⟩
  have h3' : W.ownsRow B 3 1 v2 (m + 1) (ints (p :: p' :: o).reverse) := by rw [← hm]; exact h3
  obtain ⟨g2, cap2, rfl, b4, b5, b6⟩ := own_form h3'
  have c0 : W.cell? ⟨b, 0, none⟩ = some (.slice (some ⟨g1, 0, none⟩) (k + 1) cap1) := cell_of h1 0
  have c1 : W.cell? ⟨b, 1, none⟩ = some (.slice (some ⟨g2, 0, none⟩) (m + 1) cap2) := cell_of h1 1
  have z1 := free_of h1 1
  have c2 := own_cell h2' rfl p _ (ints_get z p hp)
  have c3 : W.cell? ⟨g2, m, none⟩ = some (.int .i64 (p : Nat)) := own_cell h3' rfl m _ (by rw [← hm]; simp [ints])
  have HP := Lib.hid (fun nq : Nat => And.intro ((h.kept (W' := W.drewN nq) (fun _ _ => rfl)).1.pop hm h1 (own_keep h2 (fun _ _ => rfl)) (own_keep h3' (fun _ _ => rfl)) (by simpa [Value.ownBlock] using h4) b4)
    (show Chg (SuF b W) (SuF b (W.drewN nq)) W (W.drewN nq) from ⟨rfl, rfl, rfl, Nat.le_refl _, fun _ _ _ => rfl, fun k hk => Or.inl (((h.kept (W' := W.drewN nq) (fun _ _ => rfl)).2 k).1 hk)⟩))
  have HH := Lib.hid (fun W => (show Calls Try.prog 46 #[.int .u8 192, .int .i64 ((z[p]'hp : Nat) : Int)] W _ from hd_c 192 (z[p]'hp) (Or.inr rfl) (by omega) W))
  have HA := Lib.hid (fun W1 (h1 : SuS b B (z, p' :: o) W1) => add_c h1 hp' ((hd 192 (z[p]'hp)).length + z[p]'hp) (by omega) (by omega))
  have hs := str_size (hd 192 (z[p]'hp))
  generalize hx : z[p]'hp = x at *
  generalize hd 192 x = y at *
  rw [← hs] at hn
  clear h h1 h2 h2' h3 h3' h4
  generalize str y = yy at *
  have i1 : (0 : Int) ≤ (m : Int) ∧ (m : Int) < (m : Int) + 1 := by omega
  have i2 : (0 : Int) ≤ (p : Int) ∧ (p : Int) < (k : Int) + 1 := by omega
  have i3 : (m : Int) < 1000000 := by simp at hm; omega
  have i4 : (yy.size : Int) + (x : Int) < 4611686018427387904 := by omega
  have i5 : (m : Int) ≤ (cap2 : Int) := by omega
  have w1 := iwrap m (by simp at hm; omega)
  rw [show ((y.length + x : Nat) : Int) = (yy.size : Int) + (x : Int) by omega] at HA
  go_enter Try.func28, Try.ntmps28
  go_wp2_with fail
  go_quiet (fail)
  replace HP := Lib.hid (HP.out nq)
  have d1 : (W.drewN nq).cell? ⟨b, 1, none⟩ = some (.slice (some ⟨g2, 0, none⟩) (m + 1) cap2) := c1
  have d2 : (W.drewN nq).frozen? ⟨b, 1, none⟩ = false := z1
  generalize W.drewN nq = W1 at *
  clear hk hm hx hn hs c0 c1 c2 c3 z1 i1 i2 i3 i5 w1
  go_wp2_with fail
  refine (HH.out _).mono ?_
  rintro e W2 ⟨rfl, hb1⟩
  have H1 := Lib.hid (HP.out.1.1.calm hb1)
  clear hb1
  go_wp2_with fail
  refine (HA.out _ H1.out.1).mono ?_
  rintro e W3 ⟨rfl, h2, h3⟩
  have H2 := Lib.hid (And.intro h2 ((HP.out.2.trans HP.out.1.2).trans (H1.out.2.trans h3)))
  clear h2 h3
  go_wp2_with fail
  go_end0
  exact ⟨rfl, H2.out⟩
end Go.Proofs.Ytgaaalacoeainaa
