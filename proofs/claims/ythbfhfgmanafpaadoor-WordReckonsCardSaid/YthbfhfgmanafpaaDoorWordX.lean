/- The contract of word.Text. -/
import Derived.Test.YthbfhfgmanafpaaDoorWordO
import Derived.Test.YthbfhfgmanafpaaDoorDraw
import Derived.Lib.SmallJoins
namespace Go.Proofs.YthbfhfgmanafpaaDoor
open Go.RowKit Go.Joins
attribute [local go_sem ↓] Go.wp_at_zero Go.wp_at_succ

/-- The letter of a sixteenth; the letters of a text's first k bytes. -/
def hexc (n : Nat) : Nat := if n < 10 then 48 + n else 87 + n
def hexes (s : ByteArray) : Nat → List Int
  | 0 => []
  | k + 1 => hexes s k ++ [(hexc (byteAt s k / 16) : Int), (hexc (byteAt s k % 16) : Int)]
theorem hexes_length (s : ByteArray) (k : Nat) : (hexes s k).length = 2 * k := by
  induction k with
  | zero => rfl
  | succ k ih => simp [hexes, ih]; omega

theorem index_hex (n : Nat) (hn : n < 16) (W : World) : (Instr.index 9 (.string ⟨#[48, 49, 50, 51, 52, 53, 54, 55, 56, 57, 97, 98, 99, 100, 101, 102]⟩) (.int .u8 (n : Int))).run Tryd.prog W = .ok (.int .u8 (hexc n : Int)) W := by
  rw [run_index_string W _ _ _ _ Tryd.underlying9, dif_pos ⟨by omega, by show (n : Int) < 16; omega⟩]
  have h : n = 0 ∨ n = 1 ∨ n = 2 ∨ n = 3 ∨ n = 4 ∨ n = 5 ∨ n = 6 ∨ n = 7 ∨ n = 8 ∨ n = 9 ∨ n = 10 ∨ n = 11 ∨ n = 12 ∨ n = 13 ∨ n = 14 ∨ n = 15 := by omega
  rcases h with rfl | rfl | rfl | rfl | rfl | rfl | rfl | rfl | rfl | rfl | rfl | rfl | rfl | rfl | rfl | rfl <;> rfl

theorem Tryd.infoByte : (Tryd.prog.info? 5).map (fun i => (i.zero, i.size, i.bytes)) = some (some (.int .u8 0), 1, 1) := by kernel_rfl

/-- What Text knows at the head of a round. -/
def TextRel (w : World) (B : Nat) (s : ByteArray) (k : Nat) (v : Value) (W : World) : Prop :=
  W.ownsRow B 5 1 v (2 * k) ((hexes s k).map (Value.int .u8)) ∧ Below w.heap.size w W ∧ w.heap.size ≤ B ∧ B ≤ W.heap.size

theorem ret_string {a b : ByteArray} (h : a = b) : Ending.returned (.string a) = .returned (.string b) := by rw [h]

/-- A text of 32 bytes, in sixteenths, as Text tells it. -/
def textOf (s : ByteArray) : List UInt8 :=
  48 :: 120 :: (match Lib.trimLeftB ((hexes s 32).map fun n => UInt8.ofNat n.toNat) 48 with | [] => [48] | c :: l => c :: l)

set_option maxRecDepth 100000 in
set_option maxHeartbeats 2000000 in
theorem Text_c {x a3 a2 a1 a0 : Nat} (hx : Dig x a0 a1 a2 a3) (w : World) :
    Calls Tryd.prog 46 #[.agg #[.int .u64 a3, .int .u64 a2, .int .u64 a1, .int .u64 a0]] w fun e w' =>
      e = .returned (.string ⟨(textOf (bytesOf x)).toArray⟩) ∧ Below w.heap.size w w' := by
  have hsz := bytesOf_size x
  have HX := Lib.hid hx; clear hx
  obtain ⟨i0, hi, hz0, hz1, hz2⟩ := info_parts Tryd.infoByte
  go_enter Tryd.func46, Tryd.ntmps46
  go_wp2_with fail
  refine (Bytes_c HX.out _).mono ?_
  rintro e w1 ⟨rfl, hb1⟩
  generalize hgs : bytesOf x = s at *
  have Hgs := Lib.hid hgs; clear hgs
  have hB1 : Below w.heap.size w w1 := ((Below.refl _ _).alloc (Nat.le_refl _) _).trans (hb1.mono (by simp))
  clear hb1
  have hle := hB1.size
  have H0 := Lib.hid (show TextRel w w1.heap.size s 0 (.slice none 0 0) w1 from ⟨World.ownsRow_nil _ _ _ _, hB1, hle, Nat.le_refl _⟩)
  clear hB1
  go_wp2_with fail
  go_loopw [4, 11] (fun v i wr => ∃ k : Nat, i = .int .i64 k ∧ k ≤ 32 ∧ TextRel w w1.heap.size s k v wr) (fun _ i w => 32 - (intOf i).toNat)
  case atStart => exact ⟨0, rfl, by omega, H0.out⟩
  case round =>
    clear H0
    obtain ⟨k, rfl, hk32, hown, hB, _, hBs⟩ := hrel
    by_cases hk : k < 32
    · have hks : (k : Int) < (s.size : Int) := by omega
      have hk0 : (0 : Int) ≤ (k : Int) := by omega
      have gi := index_str s (k : Int) k (by omega) rfl
      have hbv : (s[k]'(by omega)).toNat = byteAt s k := by unfold byteAt; rw [dif_pos (by omega)]
      rw [hbv] at gi
      clear hbv
      have hb := byteAt_lt s k
      have HL := Lib.hid (show hexes s (k + 1) = hexes s k ++ [(hexc (byteAt s k / 16) : Int), (hexc (byteAt s k % 16) : Int)] from rfl)
      have HN := Lib.hid (hexes_length s k)
      generalize byteAt s k = b at *
      have j1 := index_hex (b / 16) (by omega)
      have j2 := index_hex (b % 16) (by omega)
      have h15 : Go.bits .and .u8 (b : Int) 15 = (b : Int) % 16 := u8_and15 _ (by omega) (by omega)
      rw [show (((b / 16 : Nat) : Int)) = (b : Int) / 16 by omega] at j1
      rw [show (((b % 16 : Nat) : Int)) = (b : Int) % 16 by omega] at j2
      generalize hexc (b / 16) = c1 at *
      generalize hexc (b % 16) = c2 at *
      have HB := Lib.hid hB; have Hown := Lib.hid hown; have HBs := Lib.hid hBs; clear hB hown hBs
      go_wp2_with fail
      have H0 : True := trivial
      have HS := Lib.hid (fun (_ : World) (h : True) => h)
      refine Drawn.start (fun _ => True) (fun _ => false) (by kernel_rfl) ?_
      refine Drawn.take 0 (some 14) (v := ?_) rfl rfl (by kernel_rfl) (by kernel_rfl) (by kernel_rfl) (by kernel_rfl) (by kernel_rfl) rfl (fun _ _ _ h => h) (Or.inl ⟨rfl, ?_⟩) H0 ?_
      rotate_left
      · intro W hW; have hW := HS.out W hW; go_simp; try with_reducible rfl
      simp only [put_list, List.set]
      refine Drawn.take 1 (some 15) (v := ?_) rfl rfl (by kernel_rfl) (by kernel_rfl) (by kernel_rfl) (by kernel_rfl) (by kernel_rfl) rfl (fun _ _ _ h => h) (Or.inl ⟨rfl, ?_⟩) H0 ?_
      rotate_left
      · intro W hW; have hW := HS.out W hW; go_simp; try with_reducible rfl
      simp only [put_list, List.set]
      refine Drawn.take 2 (some 16) (v := ?_) rfl rfl (by kernel_rfl) (by kernel_rfl) (by kernel_rfl) (by kernel_rfl) (by kernel_rfl) rfl (fun _ _ _ h => h) (Or.inl ⟨rfl, ?_⟩) H0 ?_
      rotate_left
      · intro W hW; have hW := HS.out W hW; go_simp; try with_reducible rfl
      simp only [put_list, List.set]
      refine Drawn.take 3 (some 17) (v := ?_) rfl rfl (by kernel_rfl) (by kernel_rfl) (by kernel_rfl) (by kernel_rfl) (by kernel_rfl) rfl (fun _ _ _ h => h) (Or.inl ⟨rfl, ?_⟩) H0 ?_
      rotate_left
      · intro W hW; have hW := HS.out W hW; go_simp; try with_reducible rfl
      simp only [put_list, List.set]
      refine Drawn.take 4 (some 18) (v := ?_) rfl rfl (by kernel_rfl) (by kernel_rfl) (by kernel_rfl) (by kernel_rfl) (by kernel_rfl) rfl (fun _ _ _ h => h) (Or.inl ⟨rfl, ?_⟩) H0 ?_
      rotate_left
      · intro W hW; have hW := HS.out W hW; go_simp; try with_reducible rfl
      simp only [put_list, List.set]
      refine Drawn.take 5 (some 19) (v := ?_) rfl rfl (by kernel_rfl) (by kernel_rfl) (by kernel_rfl) (by kernel_rfl) (by kernel_rfl) rfl (fun _ _ _ h => h) (Or.inl ⟨rfl, ?_⟩) H0 ?_
      rotate_left
      · intro W hW; have hW := HS.out W hW; go_simp; try with_reducible rfl
      simp only [put_list, List.set]
      refine Drawn.take 6 (some 20) (v := ?_) rfl rfl (by kernel_rfl) (by kernel_rfl) (by kernel_rfl) (by kernel_rfl) (by kernel_rfl) rfl (fun _ _ _ h => h) (Or.inl ⟨rfl, ?_⟩) H0 ?_
      rotate_left
      · intro W hW; have hW := HS.out W hW; go_simp; try with_reducible rfl
      simp only [put_list, List.set]
      refine Drawn.take 7 (some 21) (v := ?_) rfl rfl (by kernel_rfl) (by kernel_rfl) (by kernel_rfl) (by kernel_rfl) (by kernel_rfl) rfl (fun _ _ _ h => h) (Or.inl ⟨rfl, ?_⟩) H0 ?_
      rotate_left
      · intro W hW; have hW := HS.out W hW; go_simp; try with_reducible rfl
      simp only [put_list, List.set]
      refine Drawn.take 8 (some 22) (v := ?_) rfl rfl (by kernel_rfl) (by kernel_rfl) (by kernel_rfl) (by kernel_rfl) (by kernel_rfl) rfl (fun _ _ _ h => h) (Or.inl ⟨rfl, ?_⟩) H0 ?_
      rotate_left
      · intro W hW; have hW := HS.out W hW; go_simp; try with_reducible rfl
      simp only [put_list, List.set]
      refine Drawn.take 9 (some 23) (v := ?_) rfl rfl (by kernel_rfl) (by kernel_rfl) (by kernel_rfl) (by kernel_rfl) (by kernel_rfl) rfl (fun _ _ _ h => h) (Or.inl ⟨rfl, ?_⟩) H0 ?_
      rotate_left
      · intro W hW; have hW := HS.out W hW; go_simp; try with_reducible rfl
      simp only [put_list, List.set]
      refine Drawn.take 10 (some 24) (v := ?_) rfl rfl (by kernel_rfl) (by kernel_rfl) (by kernel_rfl) (by kernel_rfl) (by kernel_rfl) rfl (fun _ _ _ h => h) (Or.inl ⟨rfl, ?_⟩) H0 ?_
      rotate_left
      · intro W hW; have hW := HS.out W hW; go_simp; try with_reducible rfl
      simp only [put_list, List.set]
      refine Drawn.only 11 (by kernel_rfl) rfl rfl (fun K hK => ?_)
      go_simp
      refine hK _ _ (fun _ _ => H0) ?_
      clear hK K
      refine Drawn.only 12 (by kernel_rfl) rfl rfl (fun K hK => ?_)
      refine wp_append_own _ (.tmp 14) (.tmp 25) 63 rfl w1.heap.size 5 i0 (.int .u8 0) 1 1 Tryd.underlying63 hi hz0 hz1 hz2 rfl (by omega) u4 (2 * k) _ (by rfl) (Hown.out.alloc _).drew ⟨wr.heap.size, 0, none⟩ 2 2 [.int .u8 c1, .int .u8 c2] (by rfl) rfl ?_ ?_ ?_ ?_ ?_ ?_
      · intro j u hj
        match j, hj with
        | 0, hj => simp at hj; subst hj; simp [Addr.add]
        | 1, hj => simp at hj; subst hj; simp [Addr.add]
      · intro u hu
        simp at hu
        rcases hu with rfl | rfl <;> rfl
      · unfold maxLen; omega
      · omega
      · have := HBs.out; simp; omega
      intro v' w2 hown2 hgrow _
      refine hK _ _ (fun _ _ => H0) ?_
      clear hK K
      have HE := Lib.hid (show TextRel w w1.heap.size s (k + 1) v' w2 from ⟨by
          have e : (hexes s (k + 1)).map (Value.int .u8) = (hexes s k).map (Value.int .u8) ++ [.int .u8 c1, .int .u8 c2] := by rw [HL.out]; simp
          rw [e, show 2 * (k + 1) = 2 * k + 2 by omega]; exact hown2,
        (((HB.out.alloc (by have := HBs.out; omega) _).drew).grown hgrow (by have := HBs.out; show _ ≤ (wr.alloc _).heap.size; rw [alloc_size]; omega) (fun g hg => by have := (Hown.out.lt g hg).1; omega)),
        hle, by have h1 := hgrow.size; have h2 := HBs.out; change (wr.alloc _).heap.size ≤ _ at h1; rw [alloc_size] at h1; omega⟩)
      clear hown2 hgrow
      change Drawn _ _ _ _ _ _ _ _ (Act.put _ (some 26) v') _
      simp only [put_list, List.set]
      refine Drawn.only 13 (by kernel_rfl) rfl rfl (fun K hK => ?_)
      go_simp
      refine hK _ _ (fun _ _ => H0) ?_
      clear hK K
      refine Drawn.done (by kernel_rfl) ?_ _
      go_wp2_with fail
      go_roundw
      case rel => exact ⟨k + 1, by go_num, by omega, HE.out⟩
      case measure => simp [intOf]; omega
    · have h32 : k = 32 := by omega
      subst h32
      obtain ⟨g, cap, rfl⟩ := ownsRow_form hown (by omega)
      have hconv := run_convert_bytes_arg wr 63 5 Tryd.underlying63 Tryd.underlying5 g 0 64 cap (hexes s 32) (hexes_length s 32) (by
        intro i hi
        rw [Nat.zero_add, hown.cellAt i (by omega)]
        have := hexes_length s 32
        simp [List.getD, List.getElem?_map, List.getElem?_eq_getElem (show i < (hexes s 32).length by omega)]) 9 Tryd.underlying9
      have hdata : (strOfNums (hexes s 32)).data.toList = (hexes s 32).map fun n => UInt8.ofNat n.toNat := strOfNums_data _
      have HT := Lib.hid (fun W => Tryd.strings_TrimLeft_one (strOfNums (hexes s 32)) 48 (by decide) W)
      rw [hdata] at HT
      clear hdata
      generalize strOfNums (hexes s 32) = str at *
      have HB := Lib.hid hB; clear hB hown hBs
      have HTX := Lib.hid (show textOf s = 48 :: 120 :: (match Lib.trimLeftB ((hexes s 32).map fun n => UInt8.ofNat n.toNat) 48 with | [] => [48] | c :: l => c :: l) from rfl)
      have hlen : (Lib.trimLeftB ((hexes s 32).map fun n => UInt8.ofNat n.toNat) 48).length ≤ 64 := by
        have h1 := (List.dropWhile_sublist (l := (hexes s 32).map fun n => UInt8.ofNat n.toNat) (fun x : UInt8 => x == 48)).length_le
        rw [List.length_map, hexes_length] at h1
        exact h1
      generalize Lib.trimLeftB ((hexes s 32).map fun n => UInt8.ofNat n.toNat) 48 = tl at *
      go_wp2_with fail
      refine (HT.out _).mono ?_
      rintro e w2 ⟨rfl, rfl⟩
      cases tl with
      | nil =>
        go_wp2_with fail
        go_ret
        exact ⟨ret_string (by rw [Hgs.out, HTX.out]; rfl), HB.out⟩
      | cons c l =>
        have hl : l.length ≤ 63 := by simpa using hlen
        clear hlen
        go_wp2_with fail
        go_ret
        exact ⟨ret_string (by rw [Hgs.out, HTX.out]; exact ByteArray.ext (by simp)), HB.out⟩

end Go.Proofs.YthbfhfgmanafpaaDoor
