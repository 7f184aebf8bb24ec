/- Rows of bytes that grow; the numbers of the reference's Sum. -/
import Derived.Test.YtienelgkdhmelaaDoorKRefC
import Derived.Test.YtienelgkdhmelaaDoorKSum
import Derived.ArgAppend
import Derived.Lib.ConvBytes
namespace Go.Proofs.YtienelgkdhmelaaDoor
open Go.RowKit

/-- A slice of bytes from block B on: its first n bytes are P's; its capacity may be written. -/
def Bs (B : Nat) (v : Value) (n : Nat) (P : Nat → Nat) (W : World) : Prop :=
  ∃ g cap, v = .slice (some ⟨g, 0, none⟩) n cap ∧ B ≤ g ∧ g < W.heap.size ∧ n ≤ cap ∧ (∀ j, j < n → W.cell? ⟨g, j, none⟩ = some (.int .u8 (P j : Nat))) ∧ (∀ j, j < cap → (W.cell? ⟨g, j, none⟩).isSome = true ∧ W.frozen? ⟨g, j, none⟩ = false)
theorem Bs.later {B : Nat} {v : Value} {n : Nat} {P : Nat → Nat} {W W' : World} (h : Bs B v n P W) (hb : Below W.heap.size W W') : Bs B v n P W' := by
  obtain ⟨g, cap, e, h1, h2, h3, h4, h5⟩ := h
  have hc : ∀ j, W'.cell? ⟨g, j, none⟩ = W.cell? ⟨g, j, none⟩ := fun j => World.cell?_of_block (hb.block g h2)
  have hf : ∀ j, W'.frozen? ⟨g, j, none⟩ = W.frozen? ⟨g, j, none⟩ := fun j => World.frozen?_of_block (hb.block g h2)
  exact ⟨g, cap, e, h1, Nat.lt_of_lt_of_le h2 hb.size, h3, fun j hj => (hc j).trans (h4 j hj), fun j hj => ⟨by rw [hc]; exact (h5 j hj).1, (hf j).trans (h5 j hj).2⟩⟩
theorem infoU8 : (Tryd.prog.info? 5).map (fun i => (i.zero, i.size, i.bytes)) = some (some (.int .u8 0), 1, 1) := by kernel_rfl
theorem Bs.append {B : Nat} {v : Value} {n : Nat} {P : Nat → Nat} {W : World} (h : Bs B v n P W) (hB : B ≤ W.heap.size) (hn : n < 100000) (b c : Nat) (t : TypeId) (hz : W.cell? ⟨b, 0, none⟩ = some (.int .u8 (P n : Nat))) :
    ∃ v' W', (Builtin.append_ #[32, 32] t #[v, .slice (some ⟨b, 0, none⟩) 1 c]).run Tryd.prog W = .ok v' W' ∧ Bs B v' (n + 1) P W' ∧ Below B W W' := by
  obtain ⟨g, cap, rfl, h1, h2, h3, h4, h5⟩ := h
  obtain ⟨i0, hi0, hz0, hz1, hz2⟩ := info_parts infoU8
  have hnews : ∀ j u, [Value.int .u8 (P n : Nat)][j]? = some u → W.cell? ((⟨b, 0, none⟩ : Addr).add j) = some u := by
    intro j u hj
    rcases j with _ | j
    · have e : (⟨b, 0, none⟩ : Addr).add 0 = ⟨b, 0, none⟩ := by unfold Addr.add; split <;> simp_all
      rw [e, hz]
      simpa using hj
    · simp at hj
  have hone : ∀ u ∈ [Value.int .u8 (P n : Nat)], u.oneCell' = true := by simp [Value.oneCell']
  by_cases hr : n + 1 ≤ cap
  · have hrun := run_append_room_cells (P := Tryd.prog) W 32 t 5 i0 Tryd.underlying32 hi0 g 0 n cap ⟨b, 0, none⟩ 1 c [.int .u8 (P n : Nat)] (by simp [hz1]) hnews hone hr
      (fun j hj => by have : j = 0 := by simpa using hj
                      subst this; rw [hz1]; simpa using (h5 n (by omega)).1)
      (fun j hj => by have : j = 0 := by simpa using hj
                      subst this; rw [hz1]; simpa using (h5 n (by omega)).2)
    rw [hz1, Nat.mul_one, Nat.zero_add] at hrun
    refine ⟨_, _, hrun, ?_, (Below.refl B W).setCell (p := ⟨g, n, none⟩) h1 _⟩
    show Bs B _ (n + 1) P (W.setCell ⟨g, n, none⟩ (.int .u8 (P n : Nat)))
    have hs : ∀ j, j < cap → ∃ u, W.cell? ⟨g, j, none⟩ = some u := fun j hj => Option.isSome_iff_exists.1 (h5 j hj).1
    have hcell : ∀ j, j < cap → (W.setCell ⟨g, n, none⟩ (.int .u8 (P n : Nat))).cell? ⟨g, j, none⟩ = if j = n then some (.int .u8 (P n : Nat)) else W.cell? ⟨g, j, none⟩ := by
      intro j hj
      by_cases e : j = n
      · subst e
        rw [if_pos rfl]
        obtain ⟨u, hu⟩ := hs j hj
        exact World.cell?_setCell_same _ _ _ hu
      · rw [if_neg e]
        exact World.cell?_setCell_other _ _ _ _ (by intro e'; injection e' with e1 e2; omega)
    refine ⟨g, cap, rfl, h1, by simpa [World.setCell] using h2, hr, fun j hj => ?_, fun j hj => ?_⟩
    · rw [hcell j (by omega)]
      by_cases e : j = n
      · rw [if_pos e, e]
      · rw [if_neg e]; exact h4 j (by omega)
    · refine ⟨?_, by rw [World.frozen?_setCell]; exact (h5 j hj).2⟩
      rw [hcell j hj]
      split
      · rfl
      · exact (h5 j hj).1
  · obtain ⟨v', W', hrun, r1, r2⟩ := run_append_arg_grows (P := Tryd.prog) W 32 t 5 i0 (.int .u8 0) 1 1 Tryd.underlying32 hi0 hz0 hz1 hz2 rfl (by omega) ⟨g, 0, none⟩ n cap
      ((List.range n).map fun j => Value.int .u8 (P j : Nat)) (by simp) (fun j u hj => by
        have e : (⟨g, 0, none⟩ : Addr).add j = ⟨g, j, none⟩ := by unfold Addr.add; split <;> simp_all
        rw [e]
        by_cases hjn : j < n
        · rw [h4 j hjn]; simpa [hjn] using hj
        · simp [hjn] at hj) ⟨b, 0, none⟩ 1 c [.int .u8 (P n : Nat)] rfl hnews (by omega) (by simp [maxLen]; omega) (by omega)
    refine ⟨v', W', hrun, ?_, (Below.refl B W).grown r2 hB (fun k hk => by cases hk)⟩
    rcases r1.2 with ⟨_, h0⟩ | ⟨g', cap', cur, rfl, hbg, hg, hnc, _, hcs, htake⟩
    · omega
    · refine ⟨g', cap', rfl, by omega, lt_of hg, hnc, fun j hj => ?_, fun j hj => ⟨?_, free_of hg j⟩⟩
      · have h := r1.cells (g := g') rfl j (.int .u8 (P j : Nat)) (by
          by_cases e : j < n
          · rw [List.getElem?_append_left (by simpa using e)]; simp [e]
          · have : j = n := by omega
            subst this; simp)
        have e : (⟨g', 0, none⟩ : Addr).add j = ⟨g', j, none⟩ := by unfold Addr.add; split <;> simp_all
        rwa [e] at h
      · rw [cell_of hg]
        have : j < cur.size := by rw [hcs]; omega
        simp [this]
theorem wpList_append_bs {ops : Array Oper} {rest : List Oper} {o : Oper} {a : Act} {Q : Exit → Act → World → Prop} {W : World} (hgd : o.guard = none) (s x : Operand)
    (ho : o.op = .call { callee := .builtin .append, args := #[s, x], argTypes := #[32, 32] })
    (B : Nat) (v : Value) (n : Nat) (P : Nat → Nat) (hs : a.eval s = v) (h : Bs B v n P W) (hB : B ≤ W.heap.size) (hn : n < 100000) (b c : Nat) (hx : a.eval x = .slice (some ⟨b, 0, none⟩) 1 c) (hz : W.cell? ⟨b, 0, none⟩ = some (.int .u8 (P n : Nat)))
    (hK : ∀ v' W', Bs B v' (n + 1) P W' → Below B W W' → wpList Tryd.prog ops Q rest (a.put o.dst v') W') : wpList Tryd.prog ops Q (o :: rest) a W := by
  refine wpList_plain hgd fun K hK' => ?_
  obtain ⟨v', W', hrun, r1, r2⟩ := h.append hB hn b c o.type hz
  unfold Oper.wp
  simp [execOp, ho, resolve, invoke, builtin, hs, hx, hrun, Result.andThen]
  exact hK' _ _ (hK v' W' r1 r2)
/-- A text as a slice of bytes. -/
theorem bs_text (w : World) (s : ByteArray) : Bs w.heap.size (.slice (some ⟨w.heap.size, 0, none⟩) s.size (grownCap w s.size 0 5)) s.size (byteAt s) (Lib.bytesWorld w 5 s) ∧ Below w.heap.size w (Lib.bytesWorld w 5 s) := by
  have hge := grownCap_ge w s.size 0 5
  have hnew := Lib.bytesWorld_at_new w 5 s
  have hsz : (Lib.bytesCells w 5 s).size = grownCap w s.size 0 5 := by
    have hd : s.data.size = s.size := rfl
    simp [Lib.bytesCells, hd]; omega
  refine ⟨⟨w.heap.size, _, rfl, Nat.le_refl _, by rw [Lib.bytesWorld_size]; omega, hge, fun j hj => ?_, fun j hj => ?_⟩, rfl, rfl, rfl, by rw [Lib.bytesWorld_size]; omega, fun k hk => Lib.bytesWorld_at_old w _ s k hk⟩
  · rw [Lib.bytesWorld_cell _ _ _ _ hj]
    unfold byteAt
    have hd : j < s.data.size := hj
    rw [dif_pos hj]
    rw [List.getD, Array.getElem?_toList, Array.getElem?_eq_getElem hd]; rfl
  · refine ⟨?_, ?_⟩
    · rw [cell_of hnew]
      simp [hsz, hj]
    · simp [World.frozen?, hnew, hsz]
      omega

/-- Disjoint bits: or is xor. -/
theorem or_xor {x y i : Nat} (hx : x < 2 ^ i) : x ||| (y * 2 ^ i) = x ^^^ (y * 2 ^ i) := by
  apply Nat.eq_of_testBit_eq
  intro j
  rw [Nat.testBit_or, Nat.testBit_xor, ← Nat.shiftLeft_eq, Nat.testBit_shiftLeft]
  by_cases h : i ≤ j
  · rw [Nat.testBit_lt_two_pow (Nat.lt_of_lt_of_le hx (Nat.pow_le_pow_right (by decide) h))]
    simp
  · simp [show ¬ j ≥ i from h]
theorem byte_fit {g k : Nat} (hg : g < 256) (hk : k < 8) : g * 2 ^ (8 * k) % M64 = g * 2 ^ (8 * k) := by
  apply Nat.mod_eq_of_lt
  rw [M64_pow, show (64 : Nat) = 8 + 8 * 7 by rfl]
  have h1 : g * 2 ^ (8 * k) < 2 ^ 8 * 2 ^ (8 * k) := Nat.mul_lt_mul_of_pos_right hg (Nat.two_pow_pos _)
  rw [← Nat.pow_add] at h1
  exact Nat.lt_of_lt_of_le h1 (Nat.pow_le_pow_right (by decide) (by omega))
theorem lnK_small {g : Nat → Nat} (hg : ∀ j, g j < 256) : ∀ k, k ≤ 8 → lnK g k < 2 ^ (8 * k)
  | 0, _ => by show 0 < _; exact Nat.two_pow_pos _
  | k + 1, h => by
    show lnK g k ||| (g k * 2 ^ (8 * k) % M64) < _
    rw [byte_fit (hg k) (by omega)]
    refine Nat.or_lt_two_pow (Nat.lt_of_lt_of_le (lnK_small hg k (by omega)) (Nat.pow_le_pow_right (by decide) (by omega))) ?_
    have h1 : g k * 2 ^ (8 * k) < 2 ^ 8 * 2 ^ (8 * k) := Nat.mul_lt_mul_of_pos_right (hg k) (Nat.two_pow_pos _)
    rw [← Nat.pow_add] at h1
    exact Nat.lt_of_lt_of_le h1 (Nat.pow_le_pow_right (by decide) (by omega))
theorem lnK_xor {g : Nat → Nat} (hg : ∀ j, g j < 256) {k : Nat} (hk : k < 8) : lnK g (k + 1) = lnK g k ^^^ (g k * 2 ^ (8 * k) % M64) := by
  show lnK g k ||| (g k * 2 ^ (8 * k) % M64) = _
  rw [byte_fit (hg k) hk, or_xor (lnK_small hg k (by omega))]
/-- The lanes with k bytes xored in. -/
def accX (f P : Nat → Nat) (k j : Nat) : Nat := f j ^^^ lnK (fun t => P (8 * j + t)) (min 8 (k - 8 * j))
theorem accX_lt {f : Nat → Nat} (hf : ∀ i, f i < M64) (P : Nat → Nat) (k j : Nat) : accX f P k j < M64 := xor_lt (hf j) (lnK_lt _ _)
theorem accX_zero (f P : Nat → Nat) (j : Nat) : accX f P 0 j = f j := by
  unfold accX
  rw [show min 8 (0 - 8 * j) = 0 by omega]
  exact Nat.xor_zero _
theorem accX_step (f : Nat → Nat) {P : Nat → Nat} (hP : ∀ j, P j < 256) (k j : Nat) : upd (accX f P k) (k / 8) (accX f P k (k / 8) ^^^ (P k * 2 ^ (8 * (k % 8)) % M64)) j = accX f P (k + 1) j := by
  unfold upd
  by_cases e : j = k / 8
  · rw [if_pos e, e]
    unfold accX
    rw [show min 8 (k - 8 * (k / 8)) = k % 8 by omega, show min 8 (k + 1 - 8 * (k / 8)) = k % 8 + 1 by omega, lnK_xor (fun t => hP _) (by omega), Nat.xor_assoc]
    rw [show 8 * (k / 8) + k % 8 = k by omega]
  · rw [if_neg e]
    unfold accX
    congr 2
    omega
theorem accX_end (f P : Nat → Nat) : Same (accX f P 136) (soakF f P 17) := fun j _ => by
  unfold accX soakF
  by_cases e : j < 17
  · rw [if_pos e, show min 8 (136 - 8 * j) = 8 by omega]
  · rw [if_neg e, show min 8 (136 - 8 * j) = 0 by omega]
    exact Nat.xor_zero _
/-- The text, the first bit behind it, zeros; and the last bit of N. -/
def padZ (s : ByteArray) (j : Nat) : Nat := if j < s.size then byteAt s j else if j = s.size then 1 else 0
def padQ (s : ByteArray) : Nat → Nat := upd (padZ s) (136 * (s.size / 136) + 135) (padZ s (136 * (s.size / 136) + 135) ^^^ 128)
theorem padZ_lt (s : ByteArray) (j : Nat) : padZ s j < 256 := by
  unfold padZ
  split
  · exact byteAt_lt s j
  · split <;> omega
theorem padQ_lt (s : ByteArray) (j : Nat) : padQ s j < 256 := by
  unfold padQ upd
  split
  · exact Nat.xor_lt_two_pow (n := 8) (padZ_lt s _) (by omega)
  · exact padZ_lt s j
theorem abN_congr {s s' : Nat → Nat} : ∀ k, (∀ j, j < 136 * k → s j = s' j) → abN s k = abN s' k
  | 0, _ => rfl
  | k + 1, h => by
    show soakN (abN s k) _ = soakN (abN s' k) _
    rw [abN_congr k fun j hj => h j (by omega)]
    exact soakN_congr fun j hj => h _ (by omega)
theorem padQ_end (s : ByteArray) : abN (padQ s) (s.size / 136 + 1) = endN (byteAt s) s.size := by
  unfold endN
  show soakN (abN (padQ s) (s.size / 136)) _ = _
  rw [abN_congr (s := padQ s) (s' := byteAt s) (s.size / 136) fun j hj => by
    unfold padQ upd padZ
    rw [if_neg (by omega), if_pos (by omega)]]
  refine soakN_congr fun j hj => ?_
  unfold padQ upd padN
  by_cases e : j = 135
  · subst e
    rw [if_pos rfl, if_pos rfl]
    unfold padZ
    by_cases h : 135 < s.size % 136
    · omega
    · rw [if_neg h, if_neg (by omega)]
      by_cases h2 : 135 = s.size % 136
      · rw [if_pos h2, if_pos (by omega)]
      · rw [if_neg h2, if_neg (by omega)]
  · rw [if_neg (by omega), if_neg e, Nat.xor_zero]
    unfold padZ
    by_cases h : j < s.size % 136
    · rw [if_pos h, if_pos (by omega)]
    · rw [if_neg h, if_neg (by omega)]
      by_cases h2 : j = s.size % 136
      · rw [if_pos h2, if_pos (by omega)]
      · rw [if_neg h2, if_neg (by omega)]
end Go.Proofs.YtienelgkdhmelaaDoor
