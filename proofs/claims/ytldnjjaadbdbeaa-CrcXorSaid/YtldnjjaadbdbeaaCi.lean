/- CrcXor: the sum of three texts that are xored is that of their sums. -/
import Derived.Test.YtldnjjaadbdbeaaCg
import Derived.Laws.MakeOwn
namespace Go.Proofs.Ytldnjjaadbdbeaa
open Go.RowKit

/-- Three texts xored. -/
def xorF (s t u : ByteArray) (j : Nat) : Nat := byteAt s j ^^^ byteAt t j ^^^ byteAt u j
theorem xorF_lt (s t u : ByteArray) (j : Nat) : xorF s t u j < 256 := Nat.xor_lt_two_pow (n := 8) (Nat.xor_lt_two_pow (n := 8) (byteAt_lt _ _) (byteAt_lt _ _)) (byteAt_lt _ _)
theorem moreN_congr {x : Nat} {f g : Nat → Nat} {n : Nat} (h : ∀ j, j < n → f j = g j) : moreN x f n = moreN x g n := by unfold moreN; rw [cf_congr h]
theorem sum_cut {s : ByteArray} {n : Nat} (hn : n ≤ s.size) : sumN (s.extract 0 n) = moreN 0 (byteAt s) n := by
  unfold sumN
  rw [show (s.extract 0 n).size = n by rw [ByteArray.size_extract]; omega]
  exact moreN_congr fun j hj => by rw [byteAt_extract _ _ _ _ (by omega), Nat.zero_add]
theorem sum_xor {s t u : ByteArray} {n : Nat} (h1 : n ≤ s.size) (h2 : n ≤ t.size) (h3 : n ≤ u.size) : sumN (txt n (xorF s t u)) = sumN (s.extract 0 n) ^^^ sumN (t.extract 0 n) ^^^ sumN (u.extract 0 n) := by
  rw [sum_cut h1, sum_cut h2, sum_cut h3, ← moreN_xor]
  unfold sumN
  rw [txt_size]
  exact moreN_congr fun j hj => byteAt_txt (xorF_lt s t u) hj

theorem make_bytes (n : Nat) (hn : n ≤ 281474976710656) (W : World) :
    (Instr.makeSlice 32 (.int .i64 n) (.int .i64 n)).run Try.prog W = .ok (.slice (some ⟨W.heap.size, 0, none⟩) n n) (W.alloc (.cells (blk .u8 n fun _ => 0) 5)) := by
  obtain ⟨i, h1, h2, h3, h4⟩ := info_parts (show (Try.prog.info? 5).map (fun i => (i.zero, i.size, i.bytes)) = some (some (.int .u8 0), 1, 1) by kernel_rfl)
  have h := run_make (P := Try.prog) W 32 5 i (.int .u8 0) Try.underlying32 h1 h2 .i64 .i64 n n (by omega) (Int.le_refl _) (by rw [h4]; omega) (by omega)
  rw [h]
  have e : madeCells (Value.cells (.int .u8 0)) ((n : Int).toNat * i.size) = blk .u8 n fun _ => 0 := by
    rw [h3, Nat.mul_one, Int.toNat_natCast]
    apply Array.ext_getElem?
    intro j
    by_cases hj : j < n
    · rw [blk_at _ _ hj]
      simp [madeCells, hj, Value.cells, Nat.mod_one]
    · rw [blk_none _ _ (by omega)]
      simp [madeCells]; omega
  rw [e]
  simp

/-- The first k bytes are xored. -/
structure XorS (w : World) (b n : Nat) (f : Nat → Nat) (k : Nat) (W : World) : Prop where
  below : Below w.heap.size w W
  le : w.heap.size ≤ b
  row : W.heap[b]? = some (.cells (blk .u8 n (til f (fun _ => 0) k)) 5 (0, 0))
theorem XorS.step {w W : World} {b n k : Nat} {f : Nat → Nat} (h : XorS w b n f k W) : XorS w b n f (k + 1) (W.setCell ⟨b, k, none⟩ (.int .u8 (f k : Nat))) := by
  refine ⟨h.below.setCell h.le _, h.le, ?_⟩
  rw [heap_setCell_same _ _ _ _ _ _ h.row, blk_set]
  congr 2
  exact blk_congr _ fun j _ => til_step _ _ _ _
theorem XorS.drew {w W : World} {b n k : Nat} {f : Nat → Nat} (h : XorS w b n f k W) : XorS w b n f k W.drew := ⟨h.below.drew, h.le, h.row⟩

set_option maxRecDepth 100000 in
set_option maxHeartbeats 4000000 in
theorem crcXor_c {s t u : ByteArray} (hs : s.size ≤ 140737488351232) (w : World) :
    Calls Try.prog 6 #[.string s, .string t, .string u] w fun e w' => e = .returned (.bool true) ∧ Below w.heap.size w w' := by
  obtain ⟨m, hm⟩ : ∃ m, m = min t.size u.size := ⟨_, rfl⟩
  obtain ⟨n, hn⟩ : ∃ n, n = min s.size m := ⟨_, rfl⟩
  have e1 : min (t.size : Int) (u.size : Int) = (m : Int) := by omega
  have e2 : min (s.size : Int) (m : Int) = (n : Int) := by omega
  have l1 : n ≤ s.size := by omega
  have l2 : n ≤ t.size := by omega
  have l3 : n ≤ u.size := by omega
  have hml : maxLen = 9223372036854775807 := by decide
  have hmk := make_bytes n (by omega)
  have C0 := Lib.hid (fun W => sum_c (s := txt n (xorF s t u)) (by rw [txt_size]; omega) W)
  have C1 := Lib.hid (fun W => sum_c (s := s.extract 0 n) (by rw [ByteArray.size_extract]; omega) W)
  have C2 := Lib.hid (fun W => sum_c (s := t.extract 0 n) (by rw [ByteArray.size_extract]; omega) W)
  have C3 := Lib.hid (fun W => sum_c (s := u.extract 0 n) (by rw [ByteArray.size_extract]; omega) W)
  have x1 := xor32 (sumN_lt (s.extract 0 n)) (sumN_lt (t.extract 0 n))
  have x2 := xor32 (Nat.xor_lt_two_pow (sumN_lt (s.extract 0 n)) (sumN_lt (t.extract 0 n))) (sumN_lt (u.extract 0 n))
  rw [← sum_xor l1 l2 l3] at x2
  have HX := Lib.hid (fun i j hj e W => index_i64 s i j hj e W)
  have HY := Lib.hid (fun i j hj e W => index_i64 t i j hj e W)
  have HZ := Lib.hid (fun i j hj e W => index_i64 u i j hj e W)
  generalize sumN (txt n (xorF s t u)) = y0 at *
  generalize sumN (s.extract 0 n) ^^^ sumN (t.extract 0 n) = y4 at *
  generalize sumN (s.extract 0 n) = y1 at *
  generalize sumN (t.extract 0 n) = y2 at *
  generalize sumN (u.extract 0 n) = y3 at *
  have HI := Lib.hid (And.intro l1 (And.intro l2 (And.intro l3 (And.intro hs hml))))
  have hni : (0 : Int) ≤ (n : Int) ∧ (n : Int) ≤ (s.size : Int) ∧ (n : Int) ≤ (t.size : Int) ∧ (n : Int) ≤ (u.size : Int) := by omega
  clear hs hm hn l1 l2 l3 hml
  go_enter Try.func6, Try.ntmps6
  go_wp2_with fail
  go_at_call 8
  refine (head_c _).mono ?_
  rintro e w1 ⟨rfl, h1⟩
  have H1 := Lib.hid h1; clear h1
  go_wp2_with fail
  have HQ := Lib.hid (show XorS w w1.heap.size n (xorF s t u) 0 (w1.alloc (.cells (blk .u8 n fun _ => 0) 5)) from ⟨H1.out.alloc H1.out.size _, H1.out.size, by rw [til_zero]; exact heap_last _ rfl⟩)
  generalize w1.alloc (.cells (blk .u8 n fun _ => 0) 5) = W0 at *
  generalize w1.heap.size = b at *
  clear hmk H1
  go_loopw [10] (fun i wr => ∃ k : Nat, i = .int .i64 k ∧ k ≤ n ∧ XorS w b n (xorF s t u) k wr) (fun i _ => n - (intOf i).toNat)
  case atStart => exact ⟨0, rfl, by omega, HQ.out⟩
  case round =>
    clear HQ
    obtain ⟨k, rfl, hk, hS⟩ := hrel
    by_cases hlt : k < n
    · have hI := HI.out
      have hx := fun W => HX.out (k : Int) k (by omega) rfl W
      have hy := fun W => HY.out (k : Int) k (by omega) rfl W
      have hz := fun W => HZ.out (k : Int) k (by omega) rfl W
      have v1 := u8_xor_nat (byteAt s k) (byteAt t k) (byteAt_lt _ _) (byteAt_lt _ _)
      have v2 := u8_xor_nat (byteAt s k ^^^ byteAt t k) (byteAt u k) (Nat.xor_lt_two_pow (n := 8) (byteAt_lt _ _) (byteAt_lt _ _)) (byteAt_lt _ _)
      rw [show byteAt s k ^^^ byteAt t k ^^^ byteAt u k = xorF s t u k from rfl] at v2
      have d0 := (cell_of hS.row k).trans (blk_at _ _ hlt)
      rw [til_at] at d0
      have e0 := free_of hS.row k
      have HE := Lib.hid hS.drew.step
      have hlti : (k : Int) < (n : Int) := by omega
      have hi0 : (0 : Int) ≤ (k : Int) ∧ (k : Int) < (n : Int) := by omega
      have hw : IntKind.i64.wrap ((k : Int) + 1) = (k : Int) + 1 := IntWalk.i64_in _ (by omega)
      clear hS HX HY HZ hI
      generalize hf : xorF s t u = f at *
      clear hf
      generalize hz0 : f k = z at *
      generalize byteAt s k ^^^ byteAt t k = y5 at *
      generalize byteAt s k = r1 at *
      generalize byteAt t k = r2 at *
      generalize byteAt u k = r3 at *
      clear x1 x2 C0 C1 C2 C3 hz0
      go_wp2_with fail
      go_still_tail 14, (by kernel_rfl)
      go_wp2_with fail
      go_roundw
      case rel => exact ⟨k + 1, by go_num, by omega, HE.out⟩
      case measure => simp [intOf]; omega
    · obtain rfl : k = n := by omega
      have HB := Lib.hid hS.below
      have hrow := hS.row
      rw [blk_congr .u8 (g := xorF s t u) fun j hj => til_lt hj] at hrow
      have HF := Lib.hid (show Fr w w.heap.size (b + 1) [(b, blk .u8 k (xorF s t u), 5)] wr from
        ⟨hS.below, by have := hS.le; omega, lt_of hrow, fun x hx => by obtain rfl := List.mem_singleton.1 hx; exact ⟨by simp, hrow⟩⟩)
      have HC : ∀ V : World, Fr w w.heap.size (b + 1) [(b, blk .u8 k (xorF s t u), 5)] V → (convert 32 9 (.slice (some ⟨b, 0, none⟩) k k)).run Try.prog V = .ok (.string (txt k (xorF s t u))) V :=
        fun V hV => conv_blk V b k k (xorF s t u) (xorF_lt s t u) 5 (hV.know _ (List.mem_singleton.2 rfl)).2
      have HS := Lib.hid HC
      clear hrow hS HC HX HY HZ hlt HI
      generalize xorF s t u = f at *
      go_wp2_with fail
      have H0 := HF.out.drew
      clear HF
      try simp only [put_none]
      refine Drawn.start (Fr w w.heap.size (b + 1) [(b, blk .u8 k f, 5)]) (fun _ => false) (by kernel_rfl) ?_
      refine Drawn.take 0 (some 43) (v := ?_) rfl rfl (by kernel_rfl) (by kernel_rfl) (by kernel_rfl) (by kernel_rfl) (by kernel_rfl) rfl (fun _ _ _ h => h) (Or.inl ⟨rfl, ?_⟩) H0 ?_
      rotate_left
      · intro W hW; have hW := HS.out W hW; go_simp; try with_reducible rfl
      simp only [put_list, List.set]
      refine Drawn.take 1 (some 44) (v := ?_) rfl rfl (by kernel_rfl) (by kernel_rfl) (by kernel_rfl) (by kernel_rfl) (by kernel_rfl) rfl (fun _ _ _ h => h) (Or.inl ⟨rfl, ?_⟩) H0 ?_
      rotate_left
      · intro W hW; have hW := HS.out W hW; go_simp; try with_reducible rfl
      simp only [put_list, List.set]
      refine Drawn.take 2 (some 45) (v := ?_) rfl rfl (by kernel_rfl) (by kernel_rfl) (by kernel_rfl) (by kernel_rfl) (by kernel_rfl) rfl (fun _ _ _ h => h) (Or.inl ⟨rfl, ?_⟩) H0 ?_
      rotate_left
      · intro W hW; have hW := HS.out W hW; go_simp; try with_reducible rfl
      simp only [put_list, List.set]
      refine Drawn.take 3 (some 46) (v := ?_) rfl rfl (by kernel_rfl) (by kernel_rfl) (by kernel_rfl) (by kernel_rfl) (by kernel_rfl) rfl (fun _ _ _ h => h) (Or.inl ⟨rfl, ?_⟩) H0 ?_
      rotate_left
      · intro W hW; have hW := HS.out W hW; go_simp; try with_reducible rfl
      simp only [put_list, List.set]
      refine Drawn.take 5 (some 48) (v := ?_) rfl rfl (by kernel_rfl) (by kernel_rfl) (by kernel_rfl) (by kernel_rfl) (by kernel_rfl) rfl (fun _ _ _ h => h) (Or.inl ⟨rfl, ?_⟩) H0 ?_
      rotate_left
      · intro W hW; have hW := HS.out W hW; go_simp; try with_reducible rfl
      simp only [put_list, List.set]
      refine Drawn.take 6 (some 49) (v := ?_) rfl rfl (by kernel_rfl) (by kernel_rfl) (by kernel_rfl) (by kernel_rfl) (by kernel_rfl) rfl (fun _ _ _ h => h) (Or.inl ⟨rfl, ?_⟩) H0 ?_
      rotate_left
      · intro W hW; have hW := HS.out W hW; go_simp; try with_reducible rfl
      simp only [put_list, List.set]
      refine Drawn.take 7 (some 50) (v := ?_) rfl rfl (by kernel_rfl) (by kernel_rfl) (by kernel_rfl) (by kernel_rfl) (by kernel_rfl) rfl (fun _ _ _ h => h) (Or.inl ⟨rfl, ?_⟩) H0 ?_
      rotate_left
      · intro W hW; have hW := HS.out W hW; go_simp; try with_reducible rfl
      simp only [put_list, List.set]
      refine Drawn.take 9 (some 52) (v := ?_) rfl rfl (by kernel_rfl) (by kernel_rfl) (by kernel_rfl) (by kernel_rfl) (by kernel_rfl) rfl (fun _ _ _ h => h) (Or.inl ⟨rfl, ?_⟩) H0 ?_
      rotate_left
      · intro W hW; have hW := HS.out W hW; go_simp; try with_reducible rfl
      simp only [put_list, List.set]
      refine Drawn.take 10 (some 53) (v := ?_) rfl rfl (by kernel_rfl) (by kernel_rfl) (by kernel_rfl) (by kernel_rfl) (by kernel_rfl) rfl (fun _ _ _ h => h) (Or.inl ⟨rfl, ?_⟩) H0 ?_
      rotate_left
      · intro W hW; have hW := HS.out W hW; go_simp; try with_reducible rfl
      simp only [put_list, List.set]
      refine Drawn.take 11 (some 54) (v := ?_) rfl rfl (by kernel_rfl) (by kernel_rfl) (by kernel_rfl) (by kernel_rfl) (by kernel_rfl) rfl (fun _ _ _ h => h) (Or.inl ⟨rfl, ?_⟩) H0 ?_
      rotate_left
      · intro W hW; have hW := HS.out W hW; go_simp; try with_reducible rfl
      simp only [put_list, List.set]
      refine Drawn.take 14 (some 57) (v := ?_) rfl rfl (by kernel_rfl) (by kernel_rfl) (by kernel_rfl) (by kernel_rfl) (by kernel_rfl) rfl (fun _ _ _ h => h) (Or.inl ⟨rfl, ?_⟩) H0 ?_
      rotate_left
      · intro W hW; have hW := HS.out W hW; go_simp; try with_reducible rfl
      simp only [put_list, List.set]
      refine Drawn.take 15 (some 58) (v := ?_) rfl rfl (by kernel_rfl) (by kernel_rfl) (by kernel_rfl) (by kernel_rfl) (by kernel_rfl) rfl (fun _ _ _ h => h) (Or.inl ⟨rfl, ?_⟩) H0 ?_
      rotate_left
      · intro W hW; have hW := HS.out W hW; go_simp; try with_reducible rfl
      simp only [put_list, List.set]
      refine Drawn.take 16 (some 59) (v := ?_) rfl rfl (by kernel_rfl) (by kernel_rfl) (by kernel_rfl) (by kernel_rfl) (by kernel_rfl) rfl (fun _ _ _ h => h) (Or.inl ⟨rfl, ?_⟩) H0 ?_
      rotate_left
      · intro W hW; have hW := HS.out W hW; go_simp; try with_reducible rfl
      simp only [put_list, List.set]
      refine Drawn.only 4 (by kernel_rfl) rfl rfl (fun K hK => ?_)
      go_simp
      refine (C0.out _).mono ?_
      rintro e w9 ⟨rfl, hb⟩
      refine hK _ _ (fun _ _ => H0.call hb) ?_
      replace H0 := H0.call hb
      clear hK K hb
      try simp only [put_list, List.set]
      refine Drawn.only 8 (by kernel_rfl) rfl rfl (fun K hK => ?_)
      go_simp
      refine (C1.out _).mono ?_
      rintro e w9 ⟨rfl, hb⟩
      refine hK _ _ (fun _ _ => H0.call hb) ?_
      replace H0 := H0.call hb
      clear hK K hb
      try simp only [put_list, List.set]
      refine Drawn.only 12 (by kernel_rfl) rfl rfl (fun K hK => ?_)
      go_simp
      refine (C2.out _).mono ?_
      rintro e w9 ⟨rfl, hb⟩
      refine hK _ _ (fun _ _ => H0.call hb) ?_
      replace H0 := H0.call hb
      clear hK K hb
      try simp only [put_list, List.set]
      refine Drawn.take 13 (some 56) (v := ?_) rfl rfl (by kernel_rfl) (by kernel_rfl) (by kernel_rfl) (by kernel_rfl) (by kernel_rfl) rfl (fun _ _ _ h => h) (Or.inl ⟨rfl, ?_⟩) H0 ?_
      rotate_left
      · intro W hW; have hW := HS.out W hW; go_simp; try with_reducible rfl
      simp only [put_list, List.set]
      refine Drawn.only 17 (by kernel_rfl) rfl rfl (fun K hK => ?_)
      go_simp
      refine (C3.out _).mono ?_
      rintro e w9 ⟨rfl, hb⟩
      refine hK _ _ (fun _ _ => H0.call hb) ?_
      replace H0 := H0.call hb
      clear hK K hb
      try simp only [put_list, List.set]
      refine Drawn.take 18 (some 61) (v := ?_) rfl rfl (by kernel_rfl) (by kernel_rfl) (by kernel_rfl) (by kernel_rfl) (by kernel_rfl) rfl (fun _ _ _ h => h) (Or.inl ⟨rfl, ?_⟩) H0 ?_
      rotate_left
      · intro W hW; have hW := HS.out W hW; go_simp; try with_reducible rfl
      simp only [put_list, List.set]
      refine Drawn.take 19 (some 62) (v := ?_) rfl rfl (by kernel_rfl) (by kernel_rfl) (by kernel_rfl) (by kernel_rfl) (by kernel_rfl) rfl (fun _ _ _ h => h) (Or.inl ⟨rfl, ?_⟩) H0 ?_
      rotate_left
      · intro W hW; have hW := HS.out W hW; go_simp; try with_reducible rfl
      simp only [put_list, List.set]
      refine Drawn.take 20 (some 63) (v := ?_) rfl rfl (by kernel_rfl) (by kernel_rfl) (by kernel_rfl) (by kernel_rfl) (by kernel_rfl) rfl (fun _ _ _ h => h) (Or.inl ⟨rfl, ?_⟩) H0 ?_
      rotate_left
      · intro W hW; have hW := HS.out W hW; go_simp; try with_reducible rfl
      simp only [put_list, List.set]
      refine Drawn.take 21 (some 6) (v := ?_) rfl rfl (by kernel_rfl) (by kernel_rfl) (by kernel_rfl) (by kernel_rfl) (by kernel_rfl) rfl (fun _ _ _ h => h) (Or.inl ⟨rfl, ?_⟩) H0 ?_
      rotate_left
      · intro W hW; have hW := HS.out W hW; go_simp; try with_reducible rfl
      simp only [put_list, List.set]
      refine Drawn.done (by kernel_rfl) ?_ _
      go_wp2_with fail
      go_ret
      exact ⟨rfl, H0.below⟩
end Go.Proofs.Ytldnjjaadbdbeaa
