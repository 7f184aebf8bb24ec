/- The reference's Text (written by genUy.py). -/
import Derived.Test.YtfcmcccfclaefaaDoorUx
import Derived.Test.YtfcmcccfclaefaaDoorUo
import Derived.Deep.CutRange
namespace Go.Proofs.YtfcmcccfclaefaaDoor
open Go.RowKit Go.Maps Go.Shelf Mp

theorem str_one {l : Nm} {i : Nat} {c : UInt8} (h : l[i]? = some c) : (str l).extract i (i + 1) = str [c] := by
  apply ByteArray.ext
  simp only [str, ByteArray.data_extract, List.extract_toArray, Array.mk.injEq]
  rw [List.extract_eq_take_drop, drop_at h, Nat.add_sub_cancel_left]
  rfl
theorem str_tail {l : Nm} {i k : Nat} (h : i < l.length) : (str l).extract (i + 1) (min (i + 1 + k) l.length) = str ((l.drop (i + 1)).take k) := by
  apply ByteArray.ext
  simp only [str, ByteArray.data_extract, List.extract_toArray, Array.mk.injEq]
  rw [List.extract_eq_take_drop]
  have e : (l.drop (i + 1)).length = l.length - (i + 1) := List.length_drop
  by_cases hk : i + 1 + k ≤ l.length
  · rw [Nat.min_eq_left hk]
    congr 1
    omega
  · rw [Nat.min_eq_right (by omega), List.take_of_length_le (by omega), List.take_of_length_le (by omega)]
theorem push_none {c : UInt8} (h : infoOf c.toNat = none) : pushN c.toNat = 0 := by
  have h1 := kind_none c.toNat_lt h
  unfold pushB at h1
  unfold pushN
  rw [if_neg (of_decide_eq_false h1)]
set_option maxRecDepth 100000 in
set_option maxHeartbeats 8000000 in
theorem rtext_c (l : Nm) (hl : l.length ≤ 1000) (W : World) : Calls Tryd.prog 18 #[.string (str l)] W (RowR2 9 (rowT (linesOf (insS 0 l))) W) := by
  have hsz : (str l).size = l.length := str_size l
  obtain ⟨s, hs⟩ : ∃ s, s = str l := ⟨_, rfl⟩
  obtain ⟨N, hN⟩ : ∃ N, N = l.length := ⟨_, rfl⟩
  rw [← hs, ← hN] at hsz
  rw [← hs]
  have HS := Lib.hid (And.intro hs (And.intro hN hl))
  have hN2 : (N : Int) ≤ 1000 := by omega
  clear hs hN hl
  go_enter Tryd.func18, Tryd.ntmps18
  go_wp2_with fail
  go_loopw [3, 4] (fun ov iv wr => ∃ (i : Nat) (p : List (Nat × Nm)), i ≤ N + 40 ∧ iv = .int .i64 (i : Nat) ∧ p.length ≤ i ∧ p ++ insS i (l.drop i) = insS 0 l ∧ Ot 9 W (rowT (linesOf p)) ov wr) (fun _ iv _ => N - (intOf iv).toNat)
  case atStart => exact ⟨0, [], Nat.zero_le _, rfl, Nat.le_refl _, rfl, ⟨⟨rfl, Or.inl ⟨rfl, rfl⟩⟩, Below.refl _ _⟩⟩
  case round =>
    obtain ⟨i, p, hi, rfl, hp, he, ho⟩ := hrel
    by_cases hlt : i < N
    · have hlt2 : (i : Int) < (N : Int) := by omega
      have hlt3 : i < s.size := by omega
      have hil : i < l.length := by have := HS.out.2.1; omega
      obtain ⟨c, hcl⟩ : ∃ c, l[i]? = some c := ⟨_, List.getElem?_eq_getElem hil⟩
      have hq : ∀ (h : i < s.size), s[i]'h = c := by
        obtain ⟨rfl, _⟩ := HS.out
        intro h
        rw [str_at h]
        exact (List.getElem?_eq_some_iff.1 hcl).2
      have P := Lib.hid (fun V => rpush_calls c.toNat c.toNat_lt V)
      have O := Lib.hid (fun V => rof_c (c := c.toNat) c.toNat_lt V)
      unfold OfR at O
      have hpl := pushN_le c.toNat
      rw [insS_more hcl] at he
      have he2 : (p ++ [(i, c :: (l.drop (i + 1)).take (pushN c.toNat))]) ++ insS (i + 1 + pushN c.toNat) (l.drop (i + 1 + pushN c.toNat)) = insS 0 l := by rw [List.append_assoc]; exact he
      have hds : rowT (linesOf (p ++ [(i, c :: (l.drop (i + 1)).take (pushN c.toNat))])) = rowT (linesOf p) ++ [.string (str (lineP (c :: (l.drop (i + 1)).take (pushN c.toNat))))] := by simp [linesOf, rowT]
      have hpl2 : (p ++ [(i, c :: (l.drop (i + 1)).take (pushN c.toNat))]).length ≤ i + 1 + pushN c.toNat := by rw [List.length_append, List.length_singleton]; omega
      have hrl : (rowT (linesOf p)).length < 1001 := by simp [rowT, linesOf]; omega
      have hk : (pushN c.toNat : Int) ≤ 32 := by omega
      generalize hp2 : p ++ [(i, c :: (l.drop (i + 1)).take (pushN c.toNat))] = p2 at *
      have HE := Lib.hid (And.intro he2 (And.intro hpl2 hpl))
      generalize hy : str (lineP (c :: (l.drop (i + 1)).take (pushN c.toNat))) = y at *
      have HO := Lib.hid (And.intro ho (And.intro hds hrl))
      clear he he2 hpl2 hds ho hrl hpl hp hp2
      generalize rowT (linesOf p) = ys at *
      obtain ⟨sa, sc, hv⟩ := own_any HO.out.1.row
      obtain ⟨n, hn⟩ : ∃ n, n = ys.length := ⟨_, rfl⟩
      rw [← hn] at hv
      subst hv
      have HN := Lib.hid hn
      clear hn
      cases hio : infoOf c.toNat with
      | none =>
        have hk0 := push_none hio
        rw [hk0] at hy P HE hk
        rw [show lineP (c :: (l.drop (i + 1)).take 0) = [63] ++ hexT [c] by simp only [lineP, hio, List.take_zero], ← str_app] at hy
        rw [hio, show infO none = #[.string ⟨#[]⟩, .int .u64 0, .int .i64 0, .int .i64 0] from rfl, show (none : Option Inf).isSome = false from rfl] at O
        have X := Lib.hid (fun V => rhex_c [c] (by show 1 ≤ 1000; omega) V)
        have hex := str_one hcl
        rw [← HS.out.1] at hex
        have hz : (str (hexT [c])).size ≤ 2 := by rw [str_size]; exact Nat.le_refl _
        generalize str [c] = sc1 at *
        generalize str (hexT [c]) = hc1 at *
        rw [show str [63] = { data := #[63] } from rfl] at hy
        have hlt4 : (i : Int) + 1 ≤ (N : Int) := by omega
        generalize pushB c.toNat = pb at *
        clear hcl hk0 hio hil
        rw [show ((0 : Nat) : Int) = 0 from rfl] at P
        go_wp2_with fail
        refine (O.out _).mono ?_
        rintro e V1 ⟨rfl, h1⟩
        have B1 := Lib.hid (Below.refl V1.heap.size (V1.alloc (.cells #[.string ⟨#[]⟩, .int .u64 0, .int .i64 0, .int .i64 0] 28)))
        have HB := Lib.hid (show Ot 9 W ys (.slice sa n sc) (V1.alloc (.cells #[.string ⟨#[]⟩, .int .u64 0, .int .i64 0, .int .i64 0] 28)) from (HO.out.1.call h1).call ((Below.refl _ _).alloc (Nat.le_refl _) _))
        have kb := heap_alloc_new V1 (.cells #[.string ⟨#[]⟩, .int .u64 0, .int .i64 0, .int .i64 0] 28 (0, 0))
        have k0 := (cells4 kb).1.1
        clear h1 O B1 kb
        go_wp2_with (first | (go_at_call 14; refine (P.out _).mono ?_; rintro e w1 ⟨rfl, rfl⟩))
        generalize World.alloc V1 _ = V2 at *
        generalize V1.heap.size = q1 at *
        refine (X.out _).mono ?_
        rintro e V3 ⟨rfl, h3⟩
        have HA := Lib.hid ((HB.out.call h3).call ((Below.refl V3.heap.size V3).alloc (Nat.le_refl _) (.cells #[.string y] 9)))
        clear h3 k0 X HB
        go_wp2_with (first | (go_at_call 14; refine (P.out _).mono ?_; rintro e w1 ⟨rfl, rfl⟩) | (at_builtin; refine wpList_append_one (by rfl) _ _ 38 9 (by rfl) Tryd.underlying38 (.string ⟨#[]⟩) 16 infoStr (by decide) (by decide) W.heap.size (.slice sa n sc) ys.length ys (by rfl) HA.out.row V3.heap.size (.string y) (by rfl) (by rfl) (heap_alloc_new _ _) HA.out.below.size (Nat.lt_trans HO.out.2.2 (by decide)) ?_; intro v2 V9 h2 h3 h4; have H9 := Lib.hid (HA.out.more h2 h3); clear h2 h3 h4))
        go_roundw
        case rel => exact ⟨i + 1, p2, by have := HE.out.2.2; omega, by go_num, HE.out.2.1, HE.out.1, by rw [HO.out.2.1]; exact H9.out⟩
        case measure => simp [intOf]; omega
      | some v =>
        rw [hio, show infO (some v) = #[.string (str v.nm), .int .u64 v.gas, .int .i64 v.inn, .int .i64 v.out] from rfl, show (some v).isSome = true from rfl] at O
        have hzn : (str v.nm).size ≤ 20 := by rw [str_size]; exact nm_len hio
        by_cases hk0 : pushN c.toNat = 0
        · rw [show lineP (c :: (l.drop (i + 1)).take (pushN c.toNat)) = v.nm by simp only [lineP, hio]; rw [if_pos hk0]] at hy
          rw [hk0] at P HE hk
          generalize str v.nm = nn at *
          generalize v.gas = vg at *
          generalize v.inn = vi at *
          generalize v.out = vo at *
          generalize pushB c.toNat = pb at *
          clear hcl hk0 hio hil
          subst hy
          rw [show ((0 : Nat) : Int) = 0 from rfl] at P
          go_wp2_with fail
          refine (O.out _).mono ?_
          rintro e V1 ⟨rfl, h1⟩
          have B1 := Lib.hid (Below.refl V1.heap.size (V1.alloc (.cells #[.string nn, .int .u64 vg, .int .i64 vi, .int .i64 vo] 28)))
          have HB := Lib.hid (show Ot 9 W ys (.slice sa n sc) (V1.alloc (.cells #[.string nn, .int .u64 vg, .int .i64 vi, .int .i64 vo] 28)) from (HO.out.1.call h1).call ((Below.refl _ _).alloc (Nat.le_refl _) _))
          have kb := heap_alloc_new V1 (.cells #[.string nn, .int .u64 vg, .int .i64 vi, .int .i64 vo] 28 (0, 0))
          have k0 := (cells4 kb).1.1
          clear h1 O B1 kb
          go_upto_region 12 with (go_at_call 14; refine (P.out _).mono ?_; rintro e w1 ⟨rfl, rfl⟩)
          generalize World.alloc V1 _ = V2 at *
          generalize V1.heap.size = q1 at *
          have HA := Lib.hid (HB.out.call ((Below.refl _ V2).alloc (Nat.le_refl _) (.cells #[.string nn] 9)))
          clear k0 HB
          go_wp2_with (first | (go_at_call 14; refine (P.out _).mono ?_; rintro e w1 ⟨rfl, rfl⟩) | (at_builtin; refine wpList_append_one (by rfl) _ _ 38 9 (by rfl) Tryd.underlying38 (.string ⟨#[]⟩) 16 infoStr (by decide) (by decide) W.heap.size (.slice sa n sc) ys.length ys (by rfl) HA.out.row V2.heap.size (.string nn) (by rfl) (by rfl) (heap_alloc_new _ _) HA.out.below.size (Nat.lt_trans HO.out.2.2 (by decide)) ?_; intro v2 V9 h2 h3 h4; have H9 := Lib.hid (HA.out.more h2 h3); clear h2 h3 h4))
          go_roundw
          case rel => exact ⟨i + 1, p2, by have := HE.out.2.2; omega, by go_num, HE.out.2.1, HE.out.1, by rw [HO.out.2.1]; exact H9.out⟩
          case measure => simp [intOf]; omega
        · rw [show lineP (c :: (l.drop (i + 1)).take (pushN c.toNat)) = v.nm ++ [32, 48, 120] ++ hexT ((l.drop (i + 1)).take (pushN c.toNat)) by simp only [lineP, hio]; rw [if_neg hk0], ← str_app, ← str_app] at hy
          have hkl := pushN_le c.toNat
          have X := Lib.hid (fun V => rhex_c ((l.drop (i + 1)).take (pushN c.toNat)) (by rw [List.length_take]; omega) V)
          have hex := str_tail (k := pushN c.toNat) hil
          rw [← HS.out.1, ← HS.out.2.1] at hex
          have hz : (str (hexT ((l.drop (i + 1)).take (pushN c.toNat)))).size ≤ 64 := by rw [str_size, hexT_len, List.length_take]; omega
          generalize str (hexT ((l.drop (i + 1)).take (pushN c.toNat))) = hc1 at *
          generalize str ((l.drop (i + 1)).take (pushN c.toNat)) = sc1 at *
          rw [show str [32, 48, 120] = { data := #[32, 48, 120] } from rfl] at hy
          generalize str v.nm = nn at *
          generalize v.gas = vg at *
          generalize v.inn = vi at *
          generalize v.out = vo at *
          generalize pushB c.toNat = pb at *
          generalize pushN c.toNat = k at *
          generalize hna : nn ++ { data := #[32, 48, 120] } = na at *
          have hz3 : na.size ≤ 23 := by rw [← hna, ByteArray.size_append]; have : ({ data := #[32, 48, 120] } : ByteArray).size = 3 := rfl; omega
          obtain ⟨j, hj⟩ : ∃ j, j = min (i + 1 + k) N := ⟨_, rfl⟩
          rw [← hj] at hex
          have hjN : (j : Int) ≤ (N : Int) := by omega
          have hij : (i : Int) + 1 ≤ (j : Int) := by omega
          have hm : ∀ q : Int, q = (if (N : Int) < (i : Int) + 1 + (k : Int) then (N : Int) else (i : Int) + 1 + (k : Int)) → q = (j : Int) := fun q hq => by
            rw [hq, hj]
            split <;> omega
          have HM := Lib.hid hm
          have hk1 : 0 < (k : Int) := by omega
          have hz5 : ¬ 9223372036854775807 < nn.size + 3 := by omega
          have hz6 : ¬ 9223372036854775807 < na.size + hc1.size := by omega
          clear hcl hk0 hio hil hm hj hkl
          go_wp2_with fail
          refine (O.out _).mono ?_
          rintro e V1 ⟨rfl, h1⟩
          have B1 := Lib.hid (Below.refl V1.heap.size (V1.alloc (.cells #[.string nn, .int .u64 vg, .int .i64 vi, .int .i64 vo] 28)))
          have HB := Lib.hid (show Ot 9 W ys (.slice sa n sc) (V1.alloc (.cells #[.string nn, .int .u64 vg, .int .i64 vi, .int .i64 vo] 28)) from (HO.out.1.call h1).call ((Below.refl _ _).alloc (Nat.le_refl _) _))
          have kb := heap_alloc_new V1 (.cells #[.string nn, .int .u64 vg, .int .i64 vi, .int .i64 vo] 28 (0, 0))
          have k0 := (cells4 kb).1.1
          clear h1 O B1 kb
          go_wp2_with (first | (go_at_call 14; refine (P.out _).mono ?_; rintro e w1 ⟨rfl, rfl⟩) | (refine run_min2 (by rfl) _ _ _ (by rfl) _ _ (by rfl) (by rfl) ?_; intro q hq0; obtain rfl := HM.out q hq0; clear hq0))
          generalize World.alloc V1 _ = V2 at *
          generalize V1.heap.size = q1 at *
          refine (X.out _).mono ?_
          rintro e V3 ⟨rfl, h3⟩
          have HA := Lib.hid ((HB.out.call h3).call ((Below.refl V3.heap.size V3).alloc (Nat.le_refl _) (.cells #[.string y] 9)))
          clear h3 k0 X HB
          go_wp2_with (first | (go_at_call 14; refine (P.out _).mono ?_; rintro e w1 ⟨rfl, rfl⟩) | (at_builtin; refine wpList_append_one (by rfl) _ _ 38 9 (by rfl) Tryd.underlying38 (.string ⟨#[]⟩) 16 infoStr (by decide) (by decide) W.heap.size (.slice sa n sc) ys.length ys (by rfl) HA.out.row V3.heap.size (.string y) (by rfl) (by rfl) (heap_alloc_new _ _) HA.out.below.size (Nat.lt_trans HO.out.2.2 (by decide)) ?_; intro v2 V9 h2 h3 h4; have H9 := Lib.hid (HA.out.more h2 h3); clear h2 h3 h4))
          go_roundw
          case rel => exact ⟨i + 1 + k, p2, by have := HE.out.2.2; omega, by go_num, HE.out.2.1, HE.out.1, by rw [HO.out.2.1]; exact H9.out⟩
          case measure => simp [intOf]; omega
    · have hlt2 : ¬ (i : Int) < (N : Int) := by omega
      rw [insS_end (by have := HS.out.2.1; omega), List.append_nil] at he
      rw [he] at ho
      have HO := Lib.hid ho
      clear ho he hp
      go_wp2_with fail
      go_ret
      exact ⟨_, rfl, HO.out.row, HO.out.below⟩
end Go.Proofs.YtfcmcccfclaefaaDoor
