/- OpJumps: the law's walk. -/
import Derived.Test.YtfcmcccfclaefaaDoorUu
import Derived.Test.YtfcmcccfclaefaaDoorUr
import Derived.Laws.MakeOwn
import Derived.Deep.QuietTactic
import Derived.BigQuiet
namespace Go.Proofs.YtfcmcccfclaefaaDoor
open Go.RowKit Go.Maps Go.Shelf Mp

theorem make_bytes (n : Nat) (hn : n ≤ 1000000) (W : World) :
    (Instr.makeSlice 42 (.int .i64 n) (.int .i64 n)).run Tryd.prog W = .ok (.slice (some ⟨W.heap.size, 0, none⟩) n n) (W.alloc (.cells (madeCells #[.int .u8 0] n) 5)) := by
  obtain ⟨i, h1, h2, h3, h4⟩ := info_parts (show (Tryd.prog.info? 5).map (fun i => (i.zero, i.size, i.bytes)) = some (some (.int .u8 0), 1, 1) by kernel_rfl)
  have h := run_make (P := Tryd.prog) W 42 5 i (.int .u8 0) Tryd.underlying42 h1 h2 .i64 .i64 n n (by omega) (Int.le_refl _) (by rw [h4]; omega) (by omega)
  rw [h, h3, Nat.mul_one, Int.toNat_natCast]
  rfl
theorem made_size (n : Nat) : (madeCells #[.int .u8 0] n).size = n := by simp [madeCells]
theorem str_take (s : ByteArray) (m : Nat) : s.extract 0 m = str (s.data.toList.take m) := by
  apply ByteArray.ext
  simp only [str, ByteArray.data_extract]
  apply Array.ext'
  simp [List.extract_eq_take_drop]
/-- The bytes that are pushed. -/
def fillB (data : ByteArray) (k : Nat) : Nm := (List.range k).map fun i => data.data.toList.getD i 91
theorem fillB_len (data : ByteArray) (k : Nat) : (fillB data k).length = k := by simp [fillB]
theorem fillB_at (data : ByteArray) {k i : Nat} (h : i < k) : (fillB data k)[i]? = some (data.data.toList.getD i 91) := by simp [fillB, h]
/-- Bytes that are laid, one by one. -/
structure Fb (W : World) (q k : Nat) (data : ByteArray) (i : Nat) (V : World) : Prop where
  row : ∃ cs, V.heap[q]? = some (.cells cs 5 (0, 0)) ∧ cs.size = k ∧ ∀ j, j < i → cs[j]? = some (.int .u8 ((data.data.toList.getD j 91).toNat : Nat))
  below : Below W.heap.size W V
  new : W.heap.size ≤ q
theorem Fb.put {W V : World} {q k i : Nat} {data : ByteArray} (h : Fb W q k data i V) (x : UInt8) : i < k → (∃ u, V.cell? ⟨q, i, none⟩ = some u) ∧ V.frozen? ⟨q, i, none⟩ = false ∧ (x = data.data.toList.getD i 91 → Fb W q k data (i + 1) (V.setCell ⟨q, i, none⟩ (.int .u8 (x.toNat : Nat)))) ∧ Fb W q k data i (V.setCell ⟨q, i, none⟩ (.int .u8 (x.toNat : Nat))) := by
  intro hi
  obtain ⟨cs, h1, h2, h3⟩ := h.row
  have hs := heap_setCell_same _ _ i _ _ (.int .u8 (x.toNat : Nat)) h1
  refine ⟨⟨_, by rw [cell_of h1, Array.getElem?_eq_getElem (by omega)]⟩, free_of h1 i, fun hx => ⟨⟨_, hs, by simpa using h2, fun j hj => ?_⟩, h.below.setCell h.new _, h.new⟩, ⟨⟨_, hs, by simpa using h2, fun j hj => ?_⟩, h.below.setCell h.new _, h.new⟩⟩
  · by_cases e : j = i
    · subst e
      rw [Array.getElem?_setIfInBounds_self_of_lt (by omega), hx]
    · rw [Array.getElem?_setIfInBounds_ne (fun h => e h.symm)]
      exact h3 j (by omega)
  · rw [Array.getElem?_setIfInBounds_ne (by omega)]
    exact h3 j hj
theorem Row.at {a : Option Addr} {n c : Nat} {xs : List Value} {V : World} (h : Row (.slice a n c) xs V) {j : Nat} {u : Value} (hj : xs[j]? = some u) : ∃ g, a = some ⟨g, 0, none⟩ ∧ V.cell? ⟨g, j, none⟩ = some u := by
  obtain ⟨a', c', h1, h2⟩ := h
  cases h1
  rcases h2 with rfl | ⟨g, h3, _, h5⟩
  · simp at hj
  · exact ⟨g, h3, h5 j u hj⟩
set_option maxRecDepth 100000 in
set_option maxHeartbeats 8000000 in
theorem jumpsLaw_c {a : Nat} (_ : a < 256) (data more : ByteArray) (W : World) : Calls Tryd.prog 6 #[.int .u8 (a : Nat), .string data, .string more] W fun e W' => e = .returned (.bool true) ∧ Below W.heap.size W W' := by
  obtain ⟨k, hk⟩ : ∃ k, k = a % 33 := ⟨_, rfl⟩
  have hk2 : (a : Int) % 33 = (k : Int) := by omega
  have hk3 : (k : Int) ≤ 32 := by omega
  have C1 := Lib.hid (fun V => exam_c V)
  have hmk := make_bytes k (by omega)
  have HK := Lib.hid (show k ≤ 32 by omega)
  obtain ⟨M, hM⟩ : ∃ M, M = more.data.toList.take 100 := ⟨_, rfl⟩
  have hM1 : more.extract 0 (min (more.size : Int) 100).toNat = str M := by
    rw [str_take, hM]
    congr 1
    have e : more.data.toList.length = more.size := rfl
    by_cases h : more.size ≤ 100
    · rw [List.take_of_length_le (by omega), List.take_of_length_le (by omega)]
    · congr 1; omega
  have hM2 : M.length ≤ 100 := by rw [hM]; exact List.length_take_le _ _
  have hM3 : (str M).size ≤ 100 := by rw [str_size]; exact hM2
  have CO := Lib.hid (fun V => jumps_c M (by omega) V)
  have CA := Lib.hid (fun V => jumps_c ([UInt8.ofNat (95 + k)] ++ fillB data k ++ M) (by rw [List.length_append, List.length_append, fillB_len, List.length_singleton]; omega) V)
  rw [dests_push HK.out (fillB data k) M (fillB_len data k), ← str_app, ← str_app] at CA
  have HD := Lib.hid (fun (j x : Nat) (h : (destsOf (insS 0 M))[j]? = some x) => dests_at h)
  have hz1 : (str [UInt8.ofNat (95 + k)]).size ≤ 1 := by rw [str_size]; exact Nat.le_refl _
  have hz2 : (str (fillB data k)).size ≤ 32 := by rw [str_size, fillB_len]; exact HK.out
  have HY := Lib.hid (show (destsOf (insS 0 M)).length ≤ 100 from Nat.le_trans (destsOf_len _) (Nat.le_trans (insS_len _ M 0 (Nat.le_refl _)) hM2))
  generalize hys : destsOf (insS 0 M) = ys at *
  have hcb : ∀ (V : World) (q : Nat), Fb W q k data k V → ∀ n, n = k → (convert 42 9 (.slice (some ⟨q, 0, none⟩) n n)).run Tryd.prog V = .ok (.string (str (fillB data k))) V := fun V q h n hn => by
    obtain ⟨cs, h1, h2, h3⟩ := h.row
    have e : n = (fillB data k).length := by rw [fillB_len, hn]
    have h5 := conv_at (V := V) (q := q) (cap := n) (l := fillB data k) (fun j u hj => by
      have hjk : j < k := by
        rcases Nat.lt_or_ge j k with h | h
        · exact h
        · rw [List.getElem?_eq_none (by rw [byteCells_len, fillB_len]; exact h)] at hj; cases hj
      rw [cell_of h1, h3 j hjk]
      rw [← hj]
      simp [Lib.byteCells, fillB_at data hjk])
    rwa [← e] at h5
  have HCB := Lib.hid hcb
  have hca : ∀ V : World, (convert 42 9 (.slice (some ⟨V.heap.size, 0, none⟩) 1 1)).run Tryd.prog (V.alloc (.cells #[.int .u8 (95 + (k : Int))] 5)) = .ok (.string (str [UInt8.ofNat (95 + k)])) (V.alloc (.cells #[.int .u8 (95 + (k : Int))] 5)) := fun V => conv_new V (l := [UInt8.ofNat (95 + k)]) (by have h := HK.out; show _ = #[Value.int .u8 ((UInt8.ofNat (95 + k)).toNat : Int)]; rw [u8_at (by omega)]; rfl) 1 rfl
  have HCA := Lib.hid hca
  obtain ⟨my, hmy⟩ : ∃ my, my = str M := ⟨_, rfl⟩
  rw [← hmy] at hM1 hM3 CO CA
  have HMY := Lib.hid hmy
  generalize str [UInt8.ofNat (95 + k)] = s1 at *
  generalize str (fillB data k) = s2 at *
  generalize hs12 : s1 ++ s2 = s12 at *
  have hz3 : s12.size ≤ 33 := by rw [← hs12, ByteArray.size_append]; omega
  generalize hs13 : s12 ++ my = s13 at *
  clear hk hM hM2 hcb hca hmy hys
  go_enter Tryd.func6, Tryd.ntmps6
  go_wp2_with fail
  refine (C1.out _).mono ?_
  rintro e V1 ⟨rfl, h1⟩
  have H1 := Lib.hid (show Fb W V1.heap.size k data 0 (V1.alloc (.cells (madeCells #[.int .u8 0] k) 5)) from ⟨⟨_, heap_alloc_new _ _, made_size k, fun j hj => by omega⟩, h1.alloc h1.size _, h1.size⟩)
  clear h1 C1
  go_wp2_with fail
  generalize hV2 : World.alloc V1 _ = V2 at *
  clear hV2 hmk
  generalize V1.heap.size = q at *
  go_loopw [10] (fun iv wr => ∃ i : Nat, i ≤ k ∧ iv = .int .i64 (i : Nat) ∧ Fb W q k data i wr) (fun iv _ => k - (intOf iv).toNat)
  case atStart => exact ⟨0, Nat.zero_le _, rfl, H1.out⟩
  case round =>
    clear H1
    obtain ⟨i, hi, rfl, h⟩ := hrel
    have HX := Lib.hid h
    clear h
    by_cases hlt : i < k
    · have hlt2 : (i : Int) < (k : Int) := by omega
      obtain ⟨⟨u, hu⟩, hf, h91, h92⟩ := HX.out.put 91 hlt
      by_cases hd : i < data.size
      · have hd2 : (i : Int) < (data.size : Int) := by omega
        obtain ⟨_, _, h93, _⟩ := h92.put (data[i]'hd) hlt
        have h94 := Lib.hid (h93 (by rw [List.getD_eq_getElem?_getD, Array.getElem?_toList, Array.getElem?_eq_getElem hd]; rfl))
        clear h91 h92 h93
        go_wp2_with fail
        go_roundw
        case rel => exact ⟨i + 1, by omega, by go_num, h94.out⟩
        case measure => simp [intOf]; omega
      · have hd2 : ¬ (i : Int) < (data.size : Int) := by omega
        have h94 := Lib.hid (h91 (by rw [List.getD_eq_getElem?_getD, Array.getElem?_toList, Array.getElem?_eq_none (by have : data.data.size = data.size := rfl; omega)]; rfl))
        clear h91 h92
        go_wp2_with fail
        go_roundw
        case rel => exact ⟨i + 1, by omega, by go_num, h94.out⟩
        case measure => simp [intOf]; omega
    · obtain rfl : i = k := by omega
      have hca := HCA.out wr
      have HX2 := Lib.hid (show Fb W q i data i (wr.alloc (.cells #[.int .u8 (95 + (i : Int))] 5)) from by
        obtain ⟨cs, h1, h2, h3⟩ := HX.out.row
        have hb : Below wr.heap.size wr (wr.alloc (.cells #[.int .u8 (95 + (i : Int))] 5)) := (Below.refl _ _).alloc (Nat.le_refl _) _
        exact ⟨⟨cs, (hb.block _ (lt_of h1)).trans h1, h2, h3⟩, HX.out.below.trans (hb.mono HX.out.below.size), HX.out.new⟩)
      have hcb := HCB.out _ q HX2.out i rfl
      have HB2 := Lib.hid HX2.out.below
      clear HCA HCB HX
      go_wp2_with fail
      refine (CA.out _).mono ?_
      rintro e V3 ⟨va, rfl, h3, h4⟩
      have H3 := Lib.hid (And.intro (Row.of_own h3) (HB2.out.trans (h4.mono HB2.out.size)))
      clear h3 h4 hca hcb HX2 HB2 CA
      obtain ⟨ga, ca, hva, _⟩ := H3.out.1
      obtain ⟨N, hN⟩ : ∃ N, N = ys.length := ⟨_, rfl⟩
      rw [show (rowI (ys.map (fun x => x + (1 + i)))).length = N from by rw [hN]; simp [rowI]] at hva
      subst hva
      have HN := Lib.hid hN
      have hN3 : (N : Int) ≤ 100 := by have := HY.out; omega
      clear hN
      go_wp2_with fail
      refine (CO.out _).mono ?_
      rintro e V4 ⟨vo, rfl, h5, h6⟩
      have H4 := Lib.hid (And.intro (H3.out.1.call h6) (And.intro (Row.of_own h5) (H3.out.2.trans (h6.mono H3.out.2.size))))
      clear h5 h6 H3 CO
      obtain ⟨go, co, hvo, _⟩ := H4.out.2.1
      rw [show (rowI ys).length = N from by rw [HN.out]; simp [rowI]] at hvo
      subst hvo
      go_wp2_with fail
      have H5 := Lib.hid (Below.refl V4.heap.size V4)
      go_loopw [13] (fun jv wr => ∃ j : Nat, j ≤ N ∧ jv = .int .i64 (j : Nat) ∧ Below V4.heap.size V4 wr) (fun jv _ => N - (intOf jv).toNat)
      case atStart => exact ⟨0, Nat.zero_le _, rfl, H5.out⟩
      case round =>
        clear H5
        obtain ⟨j, hj, rfl, hb⟩ := hrel
        by_cases hjN : j < N
        · have hj2 : (j : Int) < (N : Int) := by omega
          obtain ⟨x, hx⟩ : ∃ x, ys[j]? = some x := ⟨_, List.getElem?_eq_getElem (by rw [← HN.out]; exact hjN)⟩
          obtain ⟨g1, rfl, k1⟩ := (H4.out.1.call hb).at (j := j) (u := .int .i64 ((x : Int) + 1 + (i : Int))) (by simp only [rowI, List.getElem?_map, hx, Option.map_some]; congr 2; omega)
          obtain ⟨g2, rfl, k2⟩ := (H4.out.2.1.call hb).at (j := j) (u := .int .i64 (x : Nat)) (by simp [rowI, hx])
          have hm := HD.out j x hx
          have hxl : x < my.size := by rw [HMY.out, str_size]; exact (List.getElem?_eq_some_iff.1 hm).1
          have hq : ∀ (h : x < my.size), my[x]'h = 91 := by
            obtain rfl := HMY.out
            intro h
            rw [str_at h]
            exact (List.getElem?_eq_some_iff.1 hm).2
          have hxl2 : (x : Int) < (my.size : Int) := by omega
          have hxb : (x : Int) ≤ 100 := by omega
          have HB := Lib.hid hb
          clear hb hx hm
          go_wp2_with fail
          go_quiet (fail)
          go_wp2_with fail
          have HB2 := Lib.hid (show Below V4.heap.size V4 (wr.drewN nq) from below_drewN HB.out nq)
          generalize World.drewN wr nq = wn at *
          go_roundw
          case rel => exact ⟨j + 1, by omega, by go_num, HB2.out⟩
          case measure => simp [intOf]; omega
        · obtain rfl : j = N := by omega
          have HB := Lib.hid hb
          clear hb
          go_wp2_with fail
          go_ret
          exact ⟨rfl, H4.out.2.2.trans (HB.out.mono H4.out.2.2.size)⟩
end Go.Proofs.YtfcmcccfclaefaaDoor
