/- CrcTable: the table moves a sum on by a byte; its entries are xored. -/
import Derived.Test.YtldnjjaadbdbeaaCf
namespace Go.Proofs.Ytldnjjaadbdbeaa
open Go.RowKit

theorem tab_xor (a b : Nat) : tabN (a ^^^ b) = tabN a ^^^ tabN b := mvk_xor 8 a b
/-- What lies in the table's block. -/
theorem cell_tab {w V : World} {B N b : Nat} (h : Fr w B N [(b, blk .u32 256 tabN, 24)] V) {k : Nat} (hk : k < 256) : V.cell? ⟨b, k, none⟩ = some (.int .u32 (tabN k : Nat)) :=
  (cell_of (h.know _ (List.mem_singleton.2 rfl)).2 k).trans (blk_at .u32 tabN hk)

set_option maxRecDepth 100000 in
set_option maxHeartbeats 4000000 in
theorem crcTable_c {s : ByteArray} (hs : s.size ≤ maxLen) {p q : Nat} (hp : p < 256) (hq : q < 256) (w : World) :
    Calls Try.prog 7 #[.string s, .int .u8 p, .int .u8 q] w fun e w' => e = .returned (.bool true) ∧ Below w.heap.size w w' := by
  have C1 := Lib.hid (fun W => sum_c hs W)
  have HX := Lib.hid (fun i j hj e W => index_i64 s i j hj e W)
  have HL := Lib.hid (fun k => cf_lt (show F32 < 2 ^ 32 by decide) (byteAt_lt s) k)
  have HN := Lib.hid (fun k => show cf F32 (byteAt s) (k + 1) = mvk 8 (cf F32 (byteAt s) k ^^^ byteAt s k) from rfl)
  have HF := Lib.hid (show sumN s = F32 ^^^ cf F32 (byteAt s) s.size from rfl)
  have hpq : p ^^^ q < 256 := Nat.xor_lt_two_pow (n := 8) hp hq
  have HQ := Lib.hid (And.intro (u8_xor_nat p q hp hq) (And.intro (xor32 (tab_lt hp) (tab_lt hq)) (And.intro (tab_xor p q) (And.intro (show tabN 0 = 0 by decide +kernel) (show tabN 128 = 3988292384 by decide +kernel)))))
  have HP := Lib.hid (And.intro hp (And.intro hq hpq))
  have hsg : IntKind.u32.signed = false := rfl
  have HS' := Lib.hid hs; clear hs
  have HK := Lib.hid (fun g => show (Try.prog.info? 24).map (·.size) = some (blk .u32 256 g).size by rw [blk_size]; kernel_rfl)
  have HO := Lib.hid (blk_one .u32 256)
  have HM : ∀ W : World, (W.alloc (.cells (blk .u32 256 fun _ => 0) 24)).heap[W.heap.size]? = some (.cells (blk .u32 256 fun _ => 0) 24 (0, 0)) := fun W => heap_last _ rfl
  have hz1 : ∀ w : World, (zeroValue 24).run Try.prog w = .ok (.agg (blk .u32 256 fun _ => 0)) w := fun _ => by kernel_rfl
  generalize sumN s = x1 at *
  clear hp hq
  go_enter Try.func7, Try.ntmps7
  go_wp2_with fail
  go_at_call 8
  refine (head_c _).mono ?_
  rintro e w1 ⟨rfl, h1⟩
  have H1 := Lib.hid h1; clear h1
  go_wp2_with fail
  go_at_call 9
  refine (table_c _).mono ?_
  rintro e w2 ⟨rfl, h2⟩
  have H2 := Lib.hid (frTab (H1.out.trans (h2.mono H1.out.size))); clear h2 H1
  go_wp2_with (first | (refine wpList_store_row rfl 24 (.tmp 8) (.tmp 14) rfl w2.heap.size (blk .u32 256 tabN) rfl rfl 24 (blk .u32 256 fun _ => 0) (HM w2) (HK.out _) (by rw [blk_size, blk_size]) (HO.out _) ?_))
  clear HM HK HO hz1
  generalize (w2.alloc (.cells (blk .u32 256 fun _ => 0) 24)).setRow w2.heap.size (blk .u32 256 tabN) = W at *
  generalize w2.heap.size = b at *
  go_loop [9, 10] (fun c i => ∃ k : Nat, k ≤ s.size ∧ i = .int .i64 k ∧ c = .int .u32 (cf F32 (byteAt s) k : Nat)) (fun _ i => s.size - (intOf i).toNat)
  case atStart => exact ⟨0, by omega, rfl, rfl⟩
  case round =>
    obtain ⟨k, hk, rfl, rfl⟩ := hrel
    by_cases hlt : k < s.size
    · have hx := fun W => HX.out (k : Int) k hlt rfl W
      have hl := HL.out k
      have hb := byteAt_lt s k
      have h1 := on_bits hl hb
      have h2 := byte_of (cf F32 (byteAt s) k)
      have h3 := low8 (cf F32 (byteAt s) k) hb
      have hpp : cf F32 (byteAt s) k % 256 ^^^ byteAt s k < 256 := Nat.xor_lt_two_pow (n := 8) (Nat.mod_lt _ (by decide)) hb
      have c0 := cell_tab H2.out hpp
      have hpi : (0 : Int) ≤ ((cf F32 (byteAt s) k % 256 ^^^ byteAt s k : Nat) : Int) ∧ ((cf F32 (byteAt s) k % 256 ^^^ byteAt s k : Nat) : Int) < 256 := by omega
      have HN' := Lib.hid (HN.out k)
      clear HN HX HL
      generalize mvk 8 (cf F32 (byteAt s) k ^^^ byteAt s k) = z at *
      generalize cf F32 (byteAt s) k = x at *
      generalize byteAt s k = y at *
      generalize tabN (x % 256 ^^^ y) = t at *
      generalize x % 256 ^^^ y = r at *
      have hlti : (k : Int) < (s.size : Int) := by omega
      have hw : IntKind.i64.wrap ((k : Int) + 1) = (k : Int) + 1 := IntWalk.i64_in _ (by have := HS'.out; unfold maxLen at this; omega)
      go_wp2_with fail
      go_round
      case rel => exact ⟨k + 1, by omega, by go_num, by rw [HN'.out]⟩
      case measure => simp [intOf]; omega
    · obtain rfl : k = s.size := by omega
      have h5 := not32 (HL.out s.size)
      rw [← HF.out] at h5
      clear HN HX HL
      generalize cf F32 (byteAt s) s.size = x at *
      go_wp2_with fail
      obtain ⟨q1, q2, q3, q4, q5⟩ := HQ.out
      obtain ⟨hp, hq, hpq⟩ := HP.out
      have HC : ∀ V : World, Fr w w.heap.size (b + 1) [(b, blk .u32 256 tabN, 24)] V → V.cell? ⟨b, p ^^^ q, none⟩ = some (.int .u32 (tabN (p ^^^ q) : Nat)) ∧ V.cell? ⟨b, p, none⟩ = some (.int .u32 (tabN p : Nat)) ∧ V.cell? ⟨b, q, none⟩ = some (.int .u32 (tabN q : Nat)) ∧ V.cell? ⟨b, 0, none⟩ = some (.int .u32 0) ∧ V.cell? ⟨b, 128, none⟩ = some (.int .u32 3988292384) :=
        fun V hV => ⟨cell_tab hV hpq, cell_tab hV hp, cell_tab hV hq, by rw [cell_tab hV (by decide), q4]; rfl, by rw [cell_tab hV (by decide), q5]; rfl⟩
      rw [← q3] at q2
      have HS := Lib.hid HC; clear HC
      have H0 := H2.out.drew
      have hi1 : (0 : Int) ≤ (p : Int) ∧ (p : Int) < 256 := by omega
      have hi2 : (0 : Int) ≤ (q : Int) ∧ (q : Int) < 256 := by omega
      have hi3 : (0 : Int) ≤ ((p ^^^ q : Nat) : Int) ∧ ((p ^^^ q : Nat) : Int) < 256 := by omega
      clear HQ HP H2 q3 q4 q5
      generalize tabN (p ^^^ q) = t3 at *
      generalize tabN p = t1 at *
      generalize tabN q = t2 at *
      generalize p ^^^ q = r at *
      try simp only [put_none]
      refine Drawn.start (Fr w w.heap.size (b + 1) [(b, blk .u32 256 tabN, 24)]) (fun _ => false) (by kernel_rfl) ?_
      refine Drawn.take 0 (some 32) (v := ?_) rfl rfl (by kernel_rfl) (by kernel_rfl) (by kernel_rfl) (by kernel_rfl) (by kernel_rfl) rfl (fun _ _ _ h => h) (Or.inl ⟨rfl, ?_⟩) H0 ?_
      rotate_left
      · intro W hW; have hW := HS.out W hW; go_simp; try with_reducible rfl
      simp only [put_list, List.set]
      refine Drawn.take 1 (some 33) (v := ?_) rfl rfl (by kernel_rfl) (by kernel_rfl) (by kernel_rfl) (by kernel_rfl) (by kernel_rfl) rfl (fun _ _ _ h => h) (Or.inl ⟨rfl, ?_⟩) H0 ?_
      rotate_left
      · intro W hW; have hW := HS.out W hW; go_simp; try with_reducible rfl
      simp only [put_list, List.set]
      refine Drawn.take 2 (some 34) (v := ?_) rfl rfl (by kernel_rfl) (by kernel_rfl) (by kernel_rfl) (by kernel_rfl) (by kernel_rfl) rfl (fun _ _ _ h => h) (Or.inl ⟨rfl, ?_⟩) H0 ?_
      rotate_left
      · intro W hW; have hW := HS.out W hW; go_simp; try with_reducible rfl
      simp only [put_list, List.set]
      refine Drawn.take 3 (some 35) (v := ?_) rfl rfl (by kernel_rfl) (by kernel_rfl) (by kernel_rfl) (by kernel_rfl) (by kernel_rfl) rfl (fun _ _ _ h => h) (Or.inl ⟨rfl, ?_⟩) H0 ?_
      rotate_left
      · intro W hW; have hW := HS.out W hW; go_simp; try with_reducible rfl
      simp only [put_list, List.set]
      refine Drawn.take 4 (some 36) (v := ?_) rfl rfl (by kernel_rfl) (by kernel_rfl) (by kernel_rfl) (by kernel_rfl) (by kernel_rfl) rfl (fun _ _ _ h => h) (Or.inl ⟨rfl, ?_⟩) H0 ?_
      rotate_left
      · intro W hW; have hW := HS.out W hW; go_simp; try with_reducible rfl
      simp only [put_list, List.set]
      refine Drawn.only 5 (by kernel_rfl) rfl rfl (fun K hK => ?_)
      go_simp
      refine (C1.out _).mono ?_
      rintro e w9 ⟨rfl, hb⟩
      refine hK _ _ (fun _ _ => H0.call hb) ?_
      replace H0 := H0.call hb
      clear hK K hb
      try simp only [put_list, List.set]
      refine Drawn.take 6 (some 38) (v := ?_) rfl rfl (by kernel_rfl) (by kernel_rfl) (by kernel_rfl) (by kernel_rfl) (by kernel_rfl) rfl (fun _ _ _ h => h) (Or.inl ⟨rfl, ?_⟩) H0 ?_
      rotate_left
      · intro W hW; have hW := HS.out W hW; go_simp; try with_reducible rfl
      simp only [put_list, List.set]
      refine Drawn.take 7 (some 39) (v := ?_) rfl rfl (by kernel_rfl) (by kernel_rfl) (by kernel_rfl) (by kernel_rfl) (by kernel_rfl) rfl (fun _ _ _ h => h) (Or.inl ⟨rfl, ?_⟩) H0 ?_
      rotate_left
      · intro W hW; have hW := HS.out W hW; go_simp; try with_reducible rfl
      simp only [put_list, List.set]
      refine Drawn.take 8 (some 40) (v := ?_) rfl rfl (by kernel_rfl) (by kernel_rfl) (by kernel_rfl) (by kernel_rfl) (by kernel_rfl) rfl (fun _ _ _ h => h) (Or.inl ⟨rfl, ?_⟩) H0 ?_
      rotate_left
      · intro W hW; have hW := HS.out W hW; go_simp; try with_reducible rfl
      simp only [put_list, List.set]
      refine Drawn.take 9 (some 41) (v := ?_) rfl rfl (by kernel_rfl) (by kernel_rfl) (by kernel_rfl) (by kernel_rfl) (by kernel_rfl) rfl (fun _ _ _ h => h) (Or.inl ⟨rfl, ?_⟩) H0 ?_
      rotate_left
      · intro W hW; have hW := HS.out W hW; go_simp; try with_reducible rfl
      simp only [put_list, List.set]
      refine Drawn.take 10 (some 42) (v := ?_) rfl rfl (by kernel_rfl) (by kernel_rfl) (by kernel_rfl) (by kernel_rfl) (by kernel_rfl) rfl (fun _ _ _ h => h) (Or.inl ⟨rfl, ?_⟩) H0 ?_
      rotate_left
      · intro W hW; have hW := HS.out W hW; go_simp; try with_reducible rfl
      simp only [put_list, List.set]
      refine Drawn.take 11 (some 43) (v := ?_) rfl rfl (by kernel_rfl) (by kernel_rfl) (by kernel_rfl) (by kernel_rfl) (by kernel_rfl) rfl (fun _ _ _ h => h) (Or.inl ⟨rfl, ?_⟩) H0 ?_
      rotate_left
      · intro W hW; have hW := HS.out W hW; go_simp; try with_reducible rfl
      simp only [put_list, List.set]
      refine Drawn.take 12 (some 44) (v := ?_) rfl rfl (by kernel_rfl) (by kernel_rfl) (by kernel_rfl) (by kernel_rfl) (by kernel_rfl) rfl (fun _ _ _ h => h) (Or.inl ⟨rfl, ?_⟩) H0 ?_
      rotate_left
      · intro W hW; have hW := HS.out W hW; go_simp; try with_reducible rfl
      simp only [put_list, List.set]
      refine Drawn.take 13 (some 45) (v := ?_) rfl rfl (by kernel_rfl) (by kernel_rfl) (by kernel_rfl) (by kernel_rfl) (by kernel_rfl) rfl (fun _ _ _ h => h) (Or.inl ⟨rfl, ?_⟩) H0 ?_
      rotate_left
      · intro W hW; have hW := HS.out W hW; go_simp; try with_reducible rfl
      simp only [put_list, List.set]
      refine Drawn.take 14 (some 46) (v := ?_) rfl rfl (by kernel_rfl) (by kernel_rfl) (by kernel_rfl) (by kernel_rfl) (by kernel_rfl) rfl (fun _ _ _ h => h) (Or.inl ⟨rfl, ?_⟩) H0 ?_
      rotate_left
      · intro W hW; have hW := HS.out W hW; go_simp; try with_reducible rfl
      simp only [put_list, List.set]
      refine Drawn.take 15 (some 47) (v := ?_) rfl rfl (by kernel_rfl) (by kernel_rfl) (by kernel_rfl) (by kernel_rfl) (by kernel_rfl) rfl (fun _ _ _ h => h) (Or.inl ⟨rfl, ?_⟩) H0 ?_
      rotate_left
      · intro W hW; have hW := HS.out W hW; go_simp; try with_reducible rfl
      simp only [put_list, List.set]
      refine Drawn.take 16 (some 48) (v := ?_) rfl rfl (by kernel_rfl) (by kernel_rfl) (by kernel_rfl) (by kernel_rfl) (by kernel_rfl) rfl (fun _ _ _ h => h) (Or.inl ⟨rfl, ?_⟩) H0 ?_
      rotate_left
      · intro W hW; have hW := HS.out W hW; go_simp; try with_reducible rfl
      simp only [put_list, List.set]
      refine Drawn.take 17 (some 49) (v := ?_) rfl rfl (by kernel_rfl) (by kernel_rfl) (by kernel_rfl) (by kernel_rfl) (by kernel_rfl) rfl (fun _ _ _ h => h) (Or.inl ⟨rfl, ?_⟩) H0 ?_
      rotate_left
      · intro W hW; have hW := HS.out W hW; go_simp; try with_reducible rfl
      simp only [put_list, List.set]
      refine Drawn.take 18 (some 50) (v := ?_) rfl rfl (by kernel_rfl) (by kernel_rfl) (by kernel_rfl) (by kernel_rfl) (by kernel_rfl) rfl (fun _ _ _ h => h) (Or.inl ⟨rfl, ?_⟩) H0 ?_
      rotate_left
      · intro W hW; have hW := HS.out W hW; go_simp; try with_reducible rfl
      simp only [put_list, List.set]
      refine Drawn.take 19 (some 51) (v := ?_) rfl rfl (by kernel_rfl) (by kernel_rfl) (by kernel_rfl) (by kernel_rfl) (by kernel_rfl) rfl (fun _ _ _ h => h) (Or.inl ⟨rfl, ?_⟩) H0 ?_
      rotate_left
      · intro W hW; have hW := HS.out W hW; go_simp; try with_reducible rfl
      simp only [put_list, List.set]
      refine Drawn.take 20 (some 52) (v := ?_) rfl rfl (by kernel_rfl) (by kernel_rfl) (by kernel_rfl) (by kernel_rfl) (by kernel_rfl) rfl (fun _ _ _ h => h) (Or.inl ⟨rfl, ?_⟩) H0 ?_
      rotate_left
      · intro W hW; have hW := HS.out W hW; go_simp; try with_reducible rfl
      simp only [put_list, List.set]
      refine Drawn.take 21 (some 53) (v := ?_) rfl rfl (by kernel_rfl) (by kernel_rfl) (by kernel_rfl) (by kernel_rfl) (by kernel_rfl) rfl (fun _ _ _ h => h) (Or.inl ⟨rfl, ?_⟩) H0 ?_
      rotate_left
      · intro W hW; have hW := HS.out W hW; go_simp; try with_reducible rfl
      simp only [put_list, List.set]
      refine Drawn.take 22 (some 54) (v := ?_) rfl rfl (by kernel_rfl) (by kernel_rfl) (by kernel_rfl) (by kernel_rfl) (by kernel_rfl) rfl (fun _ _ _ h => h) (Or.inl ⟨rfl, ?_⟩) H0 ?_
      rotate_left
      · intro W hW; have hW := HS.out W hW; go_simp; try with_reducible rfl
      simp only [put_list, List.set]
      refine Drawn.take 23 (some 55) (v := ?_) rfl rfl (by kernel_rfl) (by kernel_rfl) (by kernel_rfl) (by kernel_rfl) (by kernel_rfl) rfl (fun _ _ _ h => h) (Or.inl ⟨rfl, ?_⟩) H0 ?_
      rotate_left
      · intro W hW; have hW := HS.out W hW; go_simp; try with_reducible rfl
      simp only [put_list, List.set]
      refine Drawn.take 24 (some 56) (v := ?_) rfl rfl (by kernel_rfl) (by kernel_rfl) (by kernel_rfl) (by kernel_rfl) (by kernel_rfl) rfl (fun _ _ _ h => h) (Or.inl ⟨rfl, ?_⟩) H0 ?_
      rotate_left
      · intro W hW; have hW := HS.out W hW; go_simp; try with_reducible rfl
      simp only [put_list, List.set]
      refine Drawn.take 25 (some 57) (v := ?_) rfl rfl (by kernel_rfl) (by kernel_rfl) (by kernel_rfl) (by kernel_rfl) (by kernel_rfl) rfl (fun _ _ _ h => h) (Or.inl ⟨rfl, ?_⟩) H0 ?_
      rotate_left
      · intro W hW; have hW := HS.out W hW; go_simp; try with_reducible rfl
      simp only [put_list, List.set]
      refine Drawn.take 26 (some 58) (v := ?_) rfl rfl (by kernel_rfl) (by kernel_rfl) (by kernel_rfl) (by kernel_rfl) (by kernel_rfl) rfl (fun _ _ _ h => h) (Or.inl ⟨rfl, ?_⟩) H0 ?_
      rotate_left
      · intro W hW; have hW := HS.out W hW; go_simp; try with_reducible rfl
      simp only [put_list, List.set]
      refine Drawn.take 27 (some 59) (v := ?_) rfl rfl (by kernel_rfl) (by kernel_rfl) (by kernel_rfl) (by kernel_rfl) (by kernel_rfl) rfl (fun _ _ _ h => h) (Or.inl ⟨rfl, ?_⟩) H0 ?_
      rotate_left
      · intro W hW; have hW := HS.out W hW; go_simp; try with_reducible rfl
      simp only [put_list, List.set]
      refine Drawn.take 28 (some 60) (v := ?_) rfl rfl (by kernel_rfl) (by kernel_rfl) (by kernel_rfl) (by kernel_rfl) (by kernel_rfl) rfl (fun _ _ _ h => h) (Or.inl ⟨rfl, ?_⟩) H0 ?_
      rotate_left
      · intro W hW; have hW := HS.out W hW; go_simp; try with_reducible rfl
      simp only [put_list, List.set]
      refine Drawn.take 29 (some 61) (v := ?_) rfl rfl (by kernel_rfl) (by kernel_rfl) (by kernel_rfl) (by kernel_rfl) (by kernel_rfl) rfl (fun _ _ _ h => h) (Or.inl ⟨rfl, ?_⟩) H0 ?_
      rotate_left
      · intro W hW; have hW := HS.out W hW; go_simp; try with_reducible rfl
      simp only [put_list, List.set]
      refine Drawn.take 30 (some 62) (v := ?_) rfl rfl (by kernel_rfl) (by kernel_rfl) (by kernel_rfl) (by kernel_rfl) (by kernel_rfl) rfl (fun _ _ _ h => h) (Or.inl ⟨rfl, ?_⟩) H0 ?_
      rotate_left
      · intro W hW; have hW := HS.out W hW; go_simp; try with_reducible rfl
      simp only [put_list, List.set]
      refine Drawn.take 31 (some 63) (v := ?_) rfl rfl (by kernel_rfl) (by kernel_rfl) (by kernel_rfl) (by kernel_rfl) (by kernel_rfl) rfl (fun _ _ _ h => h) (Or.inl ⟨rfl, ?_⟩) H0 ?_
      rotate_left
      · intro W hW; have hW := HS.out W hW; go_simp; try with_reducible rfl
      simp only [put_list, List.set]
      refine Drawn.take 32 (some 64) (v := ?_) rfl rfl (by kernel_rfl) (by kernel_rfl) (by kernel_rfl) (by kernel_rfl) (by kernel_rfl) rfl (fun _ _ _ h => h) (Or.inl ⟨rfl, ?_⟩) H0 ?_
      rotate_left
      · intro W hW; have hW := HS.out W hW; go_simp; try with_reducible rfl
      simp only [put_list, List.set]
      refine Drawn.take 33 (some 6) (v := ?_) rfl rfl (by kernel_rfl) (by kernel_rfl) (by kernel_rfl) (by kernel_rfl) (by kernel_rfl) rfl (fun _ _ _ h => h) (Or.inl ⟨rfl, ?_⟩) H0 ?_
      rotate_left
      · intro W hW; have hW := HS.out W hW; go_simp; try with_reducible rfl
      simp only [put_list, List.set]
      refine Drawn.done (by kernel_rfl) ?_ _
      go_wp2_with fail
      go_ret
      exact ⟨rfl, H0.below⟩
end Go.Proofs.Ytldnjjaadbdbeaa
