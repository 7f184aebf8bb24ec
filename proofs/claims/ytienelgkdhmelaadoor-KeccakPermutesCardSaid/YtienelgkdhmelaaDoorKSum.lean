/- The contract of Sum. -/
import Derived.Test.YtienelgkdhmelaaDoorKSoak
import Derived.Test.YtienelgkdhmelaaDoorKFirst
import Derived.Test.YtienelgkdhmelaaDoorKLast
namespace Go.Proofs.YtienelgkdhmelaaDoor
open Go.RowKit

/-- A whole row that is loaded in a region. -/
theorem load_row_run {P : Program} {o : Oper} {a : Act} {W : World} (ty : TypeId) (x : Operand) (ho : o.op = .load ty x) (g : Nat) (hx : a.eval x = .pointer (some ⟨g, 0, none⟩)) (t : TypeId) (cs : Array Value) (fr : Nat × Nat) (d : TypeDesc)
    (hg : W.heap[g]? = some (.cells cs t fr)) (hu : P.underlying ty = some d) (hd : (match d with | .struct _ | .array _ _ => true | _ => false) = true) (hi : (P.info? ty).map (·.size) = some cs.size) :
    (execOp a.eval o).run P W = .ok (.value (.agg cs)) W := by
  unfold execOp
  simp only [ho, hx, Instr.loadAt, Instr.sureAddr, Sem.run_bind, Sem.run_pure, Result.andThen_ok, run_loadVar_row W g t ty cs fr d hg hu hd hi]

theorem soakN_congr {f s s' : Nat → Nat} (h : ∀ j, j < 136 → s j = s' j) : soakN f s = soakN f s' := by
  have e : soakF f s 17 = soakF f s' 17 := by
    funext i
    unfold soakF
    by_cases hi : i < 17
    · rw [if_pos hi, if_pos hi, lnK_congr fun j hj => h _ (by omega)]
    · rw [if_neg hi, if_neg hi]
  unfold soakN
  rw [e]
/-- The state behind k blocks of a text. -/
def abN (s : Nat → Nat) : Nat → Nat → Nat
  | 0 => fun _ => 0
  | k + 1 => soakN (abN s k) fun j => s (136 * k + j)
theorem abN_lt (s : Nat → Nat) : ∀ k i, abN s k i < M64
  | 0, _ => by show 0 < M64; decide
  | k + 1, i => soakN_lt (abN_lt s k) _ i
/-- Keccak-256. -/
def endN (s : Nat → Nat) (n : Nat) : Nat → Nat := soakN (abN s (n / 136)) (padN (fun j => s (136 * (n / 136) + j)) (n % 136))
def sumN (s : ByteArray) : ByteArray := txt 32 (outN (endN (byteAt s) s.size))
theorem padN_congr {s s' : Nat → Nat} {n : Nat} (h : ∀ j, j < n → s j = s' j) (j : Nat) : padN s n j = padN s' n j := by
  unfold padN
  by_cases e : j < n
  · rw [if_pos e, if_pos e, h j e]
  · rw [if_neg e, if_neg e]

structure SumS (w : World) (f : Nat → Nat) (W : World) : Prop where
  below : Below w.heap.size w W
  lan : W.heap[w.heap.size]? = some (.cells (blk .u64 25 f) 34 (0, 0))
theorem SumS.walk {w W : World} {f : Nat → Nat} (h : SumS w f W) (hT : Walk w) : Walk W := by
  obtain ⟨t, fr, ht⟩ := hT
  exact ⟨t, fr, (h.below.block 0 (lt_of ht)).trans ht⟩
theorem SumS.drew {w W : World} {f : Nat → Nat} (h : SumS w f W) : SumS w f W.drew := ⟨h.below.drew, h.lan⟩
theorem SumS.call {w W W' : World} {f : Nat → Nat} (h : SumS w f W) (hb : Below W.heap.size W W') : SumS w f W' := ⟨h.below.trans (hb.mono h.below.size), (hb.block _ (lt_of h.lan)).trans h.lan⟩
theorem SumS.set {w W : World} {f : Nat → Nat} (h : SumS w f W) (g : Nat → Nat) : SumS w g (W.setRow w.heap.size (blk .u64 25 g)) := ⟨Below.setRow' h.below (Nat.le_refl _) _, row_setRow h.lan⟩
def lenV : Value → Nat
  | .string s => s.size
  | _ => 0
theorem lenV_string (s : ByteArray) : lenV (.string s) = s.size := rfl

set_option maxRecDepth 100000 in
set_option maxHeartbeats 2000000 in
theorem sum_c (s : ByteArray) (w : World) (hT : Walk w) :
    Calls Tryd.prog 9 #[.string s] w fun e w' => e = .returned (.string (sumN s)) ∧ Below w.heap.size w w' := by
  have hz1 : ∀ w : World, (zeroValue 34).run Tryd.prog w = .ok (.agg (blk .u64 25 fun _ => 0)) w := fun _ => by kernel_rfl
  have H0 := Lib.hid (show SumS w (abN (byteAt s) 0) (w.alloc (.cells (blk .u64 25 fun _ => 0) 34)) from ⟨(Below.refl _ _).alloc (by omega) _, heap_last _ rfl⟩)
  have HZ := Lib.hid (fun g => show (Tryd.prog.info? 34).map (·.size) = some (blk .u64 25 g).size by rw [blk_size]; kernel_rfl)
  have HO := Lib.hid (blk_one .u64 25)
  have HT := Lib.hid hT; clear hT
  go_enter Tryd.func9, Tryd.ntmps9
  go_wp2_with fail
  go_loopw [0] (fun v wr => ∃ k : Nat, v = .string (s.extract (136 * k) s.size) ∧ 136 * k ≤ s.size ∧ SumS w (abN (byteAt s) k) wr) (fun v _ => lenV v)
  case atStart => exact ⟨0, by simp, by omega, H0.out⟩
  case round =>
    clear H0
    obtain ⟨k, rfl, hk, hS⟩ := hrel
    have hn : (s.extract (136 * k) s.size).size = s.size - 136 * k := by rw [ByteArray.size_extract]; omega
    have hB := fun j (hj : 136 * k + j < s.size) => byteAt_extract s (136 * k) s.size j hj
    have HS := Lib.hid hS; clear hS
    have HE := Lib.hid (show (s.extract (136 * k) s.size).extract 136 (s.extract (136 * k) s.size).size = s.extract (136 * (k + 1)) s.size by rw [ByteArray.extract_extract, hn]; congr 1 <;> omega)
    by_cases hlt : 136 * (k + 1) ≤ s.size
    · have hge : (136 : Int) ≤ ((s.extract (136 * k) s.size).size : Int) := by omega
      have hext : ((s.extract (136 * k) s.size).extract 0 136).size = 136 := by rw [ByteArray.size_extract]; omega
      have HC := Lib.hid (fun W hT => soak_c (f := abN (byteAt s) k) (abN_lt _ _) (s := (s.extract (136 * k) s.size).extract 0 136) (by omega) W hT)
      have hsb : soakN (abN (byteAt s) k) (byteAt ((s.extract (136 * k) s.size).extract 0 136)) = abN (byteAt s) (k + 1) := soakN_congr fun j hj => by
        rw [byteAt_extract _ _ _ _ (by omega), byteAt_extract _ _ _ _ (by omega), Nat.zero_add]
      rw [hsb] at HC
      clear hB hsb
      have HN := Lib.hid hn
      generalize s.extract (136 * k) s.size = u at *
      clear hn
      have HX : u.extract 136 u.size = s.extract (136 * (k + 1)) s.size := HE.out
      have HM := Lib.hid (show lenV (.string (s.extract (136 * (k + 1)) s.size)) < lenV (.string u) by rw [lenV_string, lenV_string, ByteArray.size_extract, HN.out]; omega)
      clear HE HN
      generalize hu2 : s.extract (136 * (k + 1)) s.size = u2 at *
      have HU := Lib.hid hu2
      clear hu2
      go_wp2_with fail
      have H0 := HS.out.drew
      clear HS
      refine Drawn.start (fun W => SumS w (abN (byteAt s) k) W) (fun i => i == 4) (by kernel_rfl) ?_
      refine Drawn.take 0 (some 7) (v := .agg (blk .u64 25 (abN (byteAt s) k))) rfl rfl (by kernel_rfl) (by kernel_rfl) (by kernel_rfl) (by kernel_rfl) (by kernel_rfl) rfl (fun _ _ _ h => h) (Or.inl ⟨rfl, fun W hW => load_row_run 34 (.tmp 3) rfl w.heap.size rfl 34 _ (0, 0) _ hW.lan Tryd.underlying34 rfl (HZ.out _)⟩) H0 ?_
      try simp only [put_list, List.set]
      refine Drawn.take 1 (some 8) (v := ?_) rfl rfl (by kernel_rfl) (by kernel_rfl) (by kernel_rfl) (by kernel_rfl) (by kernel_rfl) rfl (fun _ _ _ h => h) (Or.inl ⟨rfl, ?_⟩) H0 ?_
      rotate_left
      · intro W hW; clear hW; go_simp; try with_reducible rfl
      try simp only [put_list, List.set]
      refine Drawn.take 2 (some 9) (v := ?_) rfl rfl (by kernel_rfl) (by kernel_rfl) (by kernel_rfl) (by kernel_rfl) (by kernel_rfl) rfl (fun _ _ _ h => h) (Or.inl ⟨rfl, ?_⟩) H0 ?_
      rotate_left
      · intro W hW; clear hW; go_simp; try with_reducible rfl
      try simp only [put_list, List.set]
      refine Drawn.only 3 (by kernel_rfl) rfl rfl (fun K hK => ?_)
      go_simp
      refine (HC.out _ (H0.walk HT.out)).mono ?_
      rintro e w1 ⟨rfl, h1⟩
      replace H0 := H0.call h1
      refine hK _ _ (fun _ _ => H0) ?_
      clear hK K h1
      try simp only [put_list, List.set]
      refine Drawn.only 4 (by kernel_rfl) rfl rfl (fun K hK => ?_)
      refine wp_store_row 34 (.tmp 3) (.tmp 10) rfl w.heap.size (blk .u64 25 (abN (byteAt s) (k + 1))) rfl rfl 34 _ H0.lan (HZ.out _) (by rw [blk_size, blk_size]) (HO.out _) ?_
      refine hK _ _ (fun h => by simp at h) ?_
      clear hK K
      refine Drawn.done (by kernel_rfl) ?_ _
      have HF := Lib.hid (H0.set (abN (byteAt s) (k + 1)))
      clear H0
      go_wp2_with fail
      go_roundw
      case rel => exact ⟨k + 1, by rw [HU.out], hlt, HF.out⟩
      case measure => exact HM.out
    · have HN := Lib.hid hn
      have hu : (s.extract (136 * k) s.size).size < 136 := by omega
      have HL := Lib.hid (fun W => last_c hu W)
      have hq : s.size / 136 = k := by omega
      have hr : s.size % 136 = (s.extract (136 * k) s.size).size := by omega
      have HA := Lib.hid (fun W hT => soak_c (f := abN (byteAt s) k) (abN_lt _ _) (s := txt 136 (padN (byteAt (s.extract (136 * k) s.size)) (s.extract (136 * k) s.size).size)) (by rw [txt_size]; omega) W hT)
      have he : soakN (abN (byteAt s) k) (byteAt (txt 136 (padN (byteAt (s.extract (136 * k) s.size)) (s.extract (136 * k) s.size).size))) = endN (byteAt s) s.size := by
        unfold endN
        rw [hq, hr]
        refine soakN_congr fun j hj => ?_
        rw [byteAt_txt (padN_lt (byteAt_lt _) _) hj]
        exact padN_congr (fun i hi => hB i (by omega)) j
      rw [he] at HA
      have hti : ((s.extract (136 * k) s.size).size : Int) < 136 := by omega
      clear hB he hq hr hu HE hn
      generalize s.extract (136 * k) s.size = u at *
      generalize txt 136 (padN (byteAt u) u.size) = u3 at *
      go_wp2_with fail
      have H0 := HS.out.drew
      clear HS
      refine Drawn.start (fun W => SumS w (abN (byteAt s) k) W) (fun _ => false) (by kernel_rfl) ?_
      refine Drawn.take 0 (some 13) (v := .agg (blk .u64 25 (abN (byteAt s) k))) rfl rfl (by kernel_rfl) (by kernel_rfl) (by kernel_rfl) (by kernel_rfl) (by kernel_rfl) rfl (fun _ _ _ h => h) (Or.inl ⟨rfl, fun W hW => load_row_run 34 (.tmp 3) rfl w.heap.size rfl 34 _ (0, 0) _ hW.lan Tryd.underlying34 rfl (HZ.out _)⟩) H0 ?_
      try simp only [put_list, List.set]
      refine Drawn.take 1 (some 14) (v := ?_) rfl rfl (by kernel_rfl) (by kernel_rfl) (by kernel_rfl) (by kernel_rfl) (by kernel_rfl) rfl (fun _ _ _ h => h) (Or.inl ⟨rfl, ?_⟩) H0 ?_
      rotate_left
      · intro W hW; clear hW; go_simp; try with_reducible rfl
      try simp only [put_list, List.set]
      refine Drawn.only 2 (by kernel_rfl) rfl rfl (fun K hK => ?_)
      go_simp
      refine (HL.out _).mono ?_
      rintro e w1 ⟨rfl, h1⟩
      replace H0 := H0.call h1
      refine hK _ _ (fun _ _ => H0) ?_
      clear hK K h1
      try simp only [put_list, List.set]
      refine Drawn.only 3 (by kernel_rfl) rfl rfl (fun K hK => ?_)
      go_simp
      refine (HA.out _ (H0.walk HT.out)).mono ?_
      rintro e w2 ⟨rfl, h2⟩
      replace H0 := H0.call h2
      refine hK _ _ (fun _ _ => H0) ?_
      clear hK K h2
      try simp only [put_list, List.set]
      refine Drawn.only 4 (by kernel_rfl) rfl rfl (fun K hK => ?_)
      go_simp
      refine (first_c _ _).mono ?_
      rintro e w3 ⟨rfl, h3⟩
      replace H0 := H0.call h3
      refine hK _ _ (fun _ _ => H0) ?_
      clear hK K h3
      try simp only [put_list, List.set]
      refine Drawn.take 5 (some 2) (v := ?_) rfl rfl (by kernel_rfl) (by kernel_rfl) (by kernel_rfl) (by kernel_rfl) (by kernel_rfl) rfl (fun _ _ _ h => h) (Or.inl ⟨rfl, ?_⟩) H0 ?_
      rotate_left
      · intro W hW; clear hW; go_simp; try with_reducible rfl
      try simp only [put_list, List.set]
      refine Drawn.done (by kernel_rfl) ?_ _
      go_wp2_with fail
      go_ret
      exact ⟨rfl, H0.below⟩
end Go.Proofs.YtienelgkdhmelaaDoor
