/- OpTexts: the law's walk. -/
import Derived.Test.YtfcmcccfclaefaaDoorUy
import Derived.Test.YtfcmcccfclaefaaDoorUp
namespace Go.Proofs.YtfcmcccfclaefaaDoor
open Go.RowKit Go.Maps Go.Shelf Mp

theorem Row.slice {v : Value} {xs : List Value} {V : World} (h : Row v xs V) {n : Nat} (hn : xs.length = n) : ∃ a c, v = .slice a n c := by
  obtain ⟨a, c, h1, _⟩ := h
  exact ⟨a, c, by rw [h1, hn]⟩
set_option maxRecDepth 100000 in
set_option maxHeartbeats 8000000 in
theorem texts_c (s : ByteArray) (W : World) : Calls Tryd.prog 4 #[.string s] W fun e W' => e = .returned (.bool true) ∧ Below W.heap.size W W' := by
  have C1 := Lib.hid (fun V => exam_c V)
  obtain ⟨M, hM⟩ : ∃ M, M = s.data.toList.take 200 := ⟨_, rfl⟩
  have hM1 : s.extract 0 (min (s.size : Int) 200).toNat = str M := by
    rw [str_take, hM]
    congr 1
    have e : s.data.toList.length = s.size := rfl
    by_cases h : s.size ≤ 200
    · rw [List.take_of_length_le (by omega), List.take_of_length_le (by omega)]
    · congr 1; omega
  have hM2 : M.length ≤ 200 := by rw [hM]; exact List.length_take_le _ _
  have C2 := Lib.hid (fun V => jumps_c M (by omega) V)
  have C3 := Lib.hid (fun V => rjumps_c M (by omega) V)
  have C4 := Lib.hid (fun V => text_c M (by omega) V)
  have C5 := Lib.hid (fun V => rtext_c M (by omega) V)
  have hY : (rowI (destsOf (insS 0 M))).length ≤ 200 := by
    have h1 := destsOf_len (insS 0 M)
    have h2 := insS_len _ M 0 (Nat.le_refl _)
    simp only [rowI, List.length_map]
    omega
  have hZ : (rowT (linesOf (insS 0 M))).length ≤ 200 := by
    have h2 := insS_len _ M 0 (Nat.le_refl _)
    simp only [rowT, linesOf, List.length_map]
    omega
  have hYi : ∀ (j : Nat) (u : Value), (rowI (destsOf (insS 0 M)))[j]? = some u → ∃ x : Int, u = .int .i64 x := fun j u h => by
    simp only [rowI, List.getElem?_map, Option.map_eq_some_iff] at h
    obtain ⟨x, _, rfl⟩ := h
    exact ⟨_, rfl⟩
  have hZi : ∀ (j : Nat) (u : Value), (rowT (linesOf (insS 0 M)))[j]? = some u → ∃ x : ByteArray, u = .string x := fun j u h => by
    simp only [rowT, List.getElem?_map, Option.map_eq_some_iff] at h
    obtain ⟨x, _, rfl⟩ := h
    exact ⟨_, rfl⟩
  generalize rowI (destsOf (insS 0 M)) = ys at *
  generalize rowT (linesOf (insS 0 M)) = zs at *
  generalize str M = my at *
  obtain ⟨N, hN⟩ : ∃ N, N = ys.length := ⟨_, rfl⟩
  obtain ⟨K, hK⟩ : ∃ K, K = zs.length := ⟨_, rfl⟩
  have HY := Lib.hid (And.intro hN (And.intro hK (And.intro hYi hZi)))
  have hN2 : (N : Int) ≤ 200 := by omega
  have hK2 : (K : Int) ≤ 200 := by omega
  clear hM hM2 hY hZ hN hK hYi hZi
  go_enter Tryd.func4, Tryd.ntmps4
  go_wp2_with fail
  refine (C1.out _).mono ?_
  rintro e V1 ⟨rfl, h1⟩
  have H1 := Lib.hid h1
  clear h1 C1
  go_wp2_with fail
  refine (C2.out _).mono ?_
  rintro e V2 ⟨v2, rfl, h2, h3⟩
  have H2 := Lib.hid (And.intro (Row.of_own h2) (H1.out.trans (h3.mono H1.out.size)))
  clear h2 h3 H1 C2
  obtain ⟨a2, c2, rfl⟩ := H2.out.1.slice HY.out.1.symm
  go_wp2_with fail
  refine (C3.out _).mono ?_
  rintro e V3 ⟨v3, rfl, h2, h3⟩
  have H3 := Lib.hid (And.intro (H2.out.1.call h3) (And.intro (Row.of_own h2) (H2.out.2.trans (h3.mono H2.out.2.size))))
  clear h2 h3 H2 C3
  obtain ⟨a3, c3, rfl⟩ := H3.out.2.1.slice HY.out.1.symm
  go_wp2_with fail
  refine (C4.out _).mono ?_
  rintro e V4 ⟨v4, rfl, h2, h3⟩
  have H4 := Lib.hid (And.intro (H3.out.1.call h3) (And.intro (H3.out.2.1.call h3) (And.intro (Row.of_own h2) (H3.out.2.2.trans (h3.mono H3.out.2.2.size)))))
  clear h2 h3 H3 C4
  obtain ⟨a4, c4, rfl⟩ := H4.out.2.2.1.slice HY.out.2.1.symm
  go_wp2_with fail
  refine (C5.out _).mono ?_
  rintro e V5 ⟨v5, rfl, h2, h3⟩
  have H5 := Lib.hid (And.intro (H4.out.1.call h3) (And.intro (H4.out.2.1.call h3) (And.intro (H4.out.2.2.1.call h3) (And.intro (Row.of_own h2) (H4.out.2.2.2.trans (h3.mono H4.out.2.2.2.size))))))
  clear h2 h3 H4 C5
  obtain ⟨a5, c5, rfl⟩ := H5.out.2.2.2.1.slice HY.out.2.1.symm
  go_wp2_with fail
  have H6 := Lib.hid (Below.refl V5.heap.size V5)
  go_loopw [8] (fun jv wr => ∃ j : Nat, j ≤ N ∧ jv = .int .i64 (j : Nat) ∧ Below V5.heap.size V5 wr) (fun jv _ => N - (intOf jv).toNat)
  case atStart => exact ⟨0, Nat.zero_le _, rfl, H6.out⟩
  case round =>
    clear H6
    obtain ⟨j, hj, rfl, hb⟩ := hrel
    by_cases hjN : j < N
    · have hj2 : (j : Int) < (N : Int) := by omega
      obtain ⟨u, hu⟩ : ∃ u, ys[j]? = some u := ⟨_, List.getElem?_eq_getElem (by rw [← HY.out.1]; exact hjN)⟩
      obtain ⟨x, rfl⟩ := HY.out.2.2.1 j u hu
      obtain ⟨g1, rfl, k1⟩ := (H5.out.1.call hb).at hu
      obtain ⟨g2, rfl, k2⟩ := (H5.out.2.1.call hb).at hu
      have HB := Lib.hid hb
      clear hb hu
      go_wp2_with fail
      go_quiet (fail)
      go_wp2_with fail
      have HB2 := Lib.hid (show Below V5.heap.size V5 (wr.drewN nq) from below_drewN HB.out nq)
      generalize World.drewN wr nq = wn at *
      go_roundw
      case rel => exact ⟨j + 1, by omega, by go_num, HB2.out⟩
      case measure => simp [intOf]; omega
    · obtain rfl : j = N := by omega
      have HB := Lib.hid hb
      clear hb
      go_wp2_with fail
      go_loopw [9] (fun jv wr2 => ∃ k : Nat, k ≤ K ∧ jv = .int .i64 (k : Nat) ∧ Below V5.heap.size V5 wr2) (fun jv _ => K - (intOf jv).toNat)
      case atStart => exact ⟨0, Nat.zero_le _, rfl, HB.out⟩
      case round =>
        clear HB
        obtain ⟨k, hk, rfl, hb⟩ := hrel
        by_cases hkK : k < K
        · have hk2 : (k : Int) < (K : Int) := by omega
          obtain ⟨u, hu⟩ : ∃ u, zs[k]? = some u := ⟨_, List.getElem?_eq_getElem (by rw [← HY.out.2.1]; exact hkK)⟩
          obtain ⟨x, rfl⟩ := HY.out.2.2.2 k u hu
          obtain ⟨g1, rfl, k1⟩ := (H5.out.2.2.1.call hb).at hu
          obtain ⟨g2, rfl, k2⟩ := (H5.out.2.2.2.1.call hb).at hu
          have HB := Lib.hid hb
          clear hb hu
          go_wp2_with fail
          go_quiet (fail)
          go_wp2_with fail
          have HB2 := Lib.hid (show Below V5.heap.size V5 (wr.drewN nq) from below_drewN HB.out nq)
          generalize World.drewN wr nq = wn at *
          go_roundw
          case rel => exact ⟨k + 1, by omega, by go_num, HB2.out⟩
          case measure => simp [intOf]; omega
        · obtain rfl : k = K := by omega
          have HB := Lib.hid hb
          clear hb
          go_wp2_with fail
          go_ret
          exact ⟨rfl, H5.out.2.2.2.2.trans (HB.out.mono H5.out.2.2.2.2.size)⟩
end Go.Proofs.YtfcmcccfclaefaaDoor
