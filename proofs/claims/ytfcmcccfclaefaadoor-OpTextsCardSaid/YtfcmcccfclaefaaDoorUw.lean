/- The reference's Hex, Jumps. -/
import Derived.Test.YtfcmcccfclaefaaDoorUr
import Derived.Test.YtfcmcccfclaefaaDoorUu
import Derived.Deep.QuietTactic
import Derived.BigQuiet
namespace Go.Proofs.YtfcmcccfclaefaaDoor
open Go.RowKit Go.Maps Go.Shelf Mp

theorem ext_all : (List.range 16).all (fun n => decide (({ data := #[48, 49, 50, 51, 52, 53, 54, 55, 56, 57, 97, 98, 99, 100, 101, 102] } : ByteArray).extract n (n + 1) = str [hexD n])) = true := by decide +kernel
theorem ext_at {n : Nat} (h : n < 16) : ({ data := #[48, 49, 50, 51, 52, 53, 54, 55, 56, 57, 97, 98, 99, 100, 101, 102] } : ByteArray).extract n (n + 1) = str [hexD n] :=
  of_decide_eq_true (List.all_eq_true.1 ext_all n (List.mem_range.2 h))
set_option maxRecDepth 100000 in
set_option maxHeartbeats 4000000 in
theorem rhex_c (l : Nm) (hl : l.length ≤ 1000) (W : World) : Calls Tryd.prog 26 #[.string (str l)] W fun e W' => e = .returned (.string (str (hexT l))) ∧ Below W.heap.size W W' := by
  have hsz : (str l).size = l.length := str_size l
  obtain ⟨s, hs⟩ : ∃ s, s = str l := ⟨_, rfl⟩
  obtain ⟨N, hN⟩ : ∃ N, N = l.length := ⟨_, rfl⟩
  rw [← hs, ← hN] at hsz
  rw [← hs]
  have HS := Lib.hid (And.intro hs (And.intro hN hl))
  have hN2 : (N : Int) ≤ 1000 := by omega
  clear hs hN hl
  go_enter Tryd.func26, Tryd.ntmps26
  go_wp2_with fail
  go_loopw [3, 4] (fun ov iv wr => ∃ i : Nat, i ≤ N ∧ iv = .int .i64 (i : Nat) ∧ ov = .string (str (hexT (l.take i))) ∧ Below W.heap.size W wr) (fun _ iv _ => N - (intOf iv).toNat)
  case atStart => exact ⟨0, Nat.zero_le _, rfl, rfl, Below.refl _ _⟩
  case round =>
    obtain ⟨i, hi, rfl, rfl, hb⟩ := hrel
    have HX := Lib.hid hb
    clear hb
    by_cases hlt : i < N
    · have hlt2 : (i : Int) < (N : Int) := by omega
      obtain ⟨c, hcl⟩ : ∃ c, l[i]? = some c := ⟨_, List.getElem?_eq_getElem (by have := HS.out.2.1; omega)⟩
      have hq : ∀ (h : i < s.size), s[i]'h = c := by
        obtain ⟨rfl, _⟩ := HS.out
        intro h
        rw [str_at h]
        exact (List.getElem?_eq_some_iff.1 hcl).2
      have hlt3 : i < s.size := by omega
      have hst : hexT (l.take (i + 1)) = hexT (l.take i) ++ [hexD (c.toNat / 16)] ++ [hexD (c.toNat % 16)] := by
        obtain ⟨h1, rfl⟩ := List.getElem?_eq_some_iff.1 hcl
        exact hexT_snoc h1
      have hcc := c.toNat_lt
      obtain ⟨x, hx⟩ : ∃ x, x = c.toNat / 16 := ⟨_, rfl⟩
      obtain ⟨y, hy⟩ : ∃ y, y = c.toNat % 16 := ⟨_, rfl⟩
      have hx2 : (c.toNat : Int) / 16 = (x : Int) := by omega
      have hy2 : (c.toNat : Int) % 16 = (y : Int) := by omega
      have e1 := ext_at (n := x) (by omega)
      have e2 := ext_at (n := y) (by omega)
      rw [← hx, ← hy] at hst
      have hx3 : (x : Int) < 16 := by omega
      have hy3 : (y : Int) < 16 := by omega
      have hz1 : (str (hexT (l.take i))).size ≤ 2000 := by rw [str_size, hexT_len, List.length_take]; have := HS.out.2.2; omega
      have ha1 : str (hexT (l.take i)) ++ str [hexD x] = str (hexT (l.take i) ++ [hexD x]) := str_app _ _
      have ha2 : str (hexT (l.take i) ++ [hexD x]) ++ str [hexD y] = str (hexT (l.take (i + 1))) := by rw [str_app, hst]
      have hz2 : (str (hexT (l.take i) ++ [hexD x])).size ≤ 2001 := by rw [← ha1, ByteArray.size_append]; have : (str [hexD x]).size = 1 := rfl; omega
      have hz3 : (str [hexD x]).size = 1 := rfl
      have hz4 : (str [hexD y]).size = 1 := rfl
      have HI := Lib.hid (rfl : str (hexT (l.take (i + 1))) = str (hexT (l.take (i + 1))))
      clear hst hcl hcc hx hy
      generalize hA : str (hexT (l.take i)) = o1 at *
      generalize hB : str (hexT (l.take i) ++ [hexD x]) = o2 at *
      generalize hC : str (hexT (l.take (i + 1))) = o3 at *
      have HC := Lib.hid hC
      clear hA hB hC HI
      generalize str [hexD x] = t1 at *
      generalize str [hexD y] = t2 at *
      have hz5 : ¬ 9223372036854775807 < o1.size + t1.size := by omega
      have hz6 : ¬ 9223372036854775807 < o2.size + t2.size := by omega
      go_wp2_with fail
      have w1 : IntKind.i64.wrap ((x : Int) + 1) = (x : Int) + 1 := by rw [IntKind.wrap_i64]; omega
      have w2 : IntKind.i64.wrap ((y : Int) + 1) = (y : Int) + 1 := by rw [IntKind.wrap_i64]; omega
      have w3 : ((x : Int) + 1).toNat = x + 1 := by omega
      have w4 : ((y : Int) + 1).toNat = y + 1 := by omega
      have w5 : (0 : Int) ≤ (x : Int) + 1 := by omega
      have w6 : (0 : Int) ≤ (y : Int) + 1 := by omega
      have w7 : (x : Int) + 1 ≤ 16 := by omega
      have w8 : (y : Int) + 1 ≤ 16 := by omega
      have w9 : (x : Int) ≤ (x : Int) + 1 := by omega
      have w10 : (y : Int) ≤ (y : Int) + 1 := by omega
      go_quiet (fail)
      clear w1 w2 w3 w4 w5 w6 w7 w8 w9 w10
      go_wp2_with fail
      have HB2 := Lib.hid (show Below W.heap.size W (wr.drewN nq) from below_drewN HX.out nq)
      generalize World.drewN wr nq = wn at *
      go_roundw
      case rel => exact ⟨i + 1, by omega, by go_num, by rw [HC.out], HB2.out⟩
      case measure => simp [intOf]; omega
    · obtain rfl : i = N := by omega
      go_wp2_with fail
      go_ret
      refine ⟨?_, HX.out⟩
      rw [HS.out.2.1, List.take_length]
      rfl
end Go.Proofs.YtfcmcccfclaefaaDoor
