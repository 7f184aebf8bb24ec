/- The reference's Of, Code. -/
import Derived.Test.YtfcmcccfclaefaaDoorUs
import Derived.Deep.CutRange
namespace Go.Proofs.YtfcmcccfclaefaaDoor
open Go.RowKit Go.Maps Go.Shelf Mp

def findC (c : Int) : Option RowZ := refAll.find? fun r => decide (r.1 = c)
set_option maxRecDepth 100000 in
theorem find_all : (List.range 256).all (fun c => decide ((findC (c : Int)).map (·.2) = infoOf c)) = true := by decide +kernel
theorem find_info {c : Nat} (h : c < 256) : (findC (c : Int)).map (·.2) = infoOf c := of_decide_eq_true (List.all_eq_true.1 find_all c (List.mem_range.2 h))
set_option maxRecDepth 100000 in
theorem rows_all : refAll.all (fun r => decide (0 ≤ r.1 ∧ r.1 < 256 ∧ infoOf r.1.toNat = some r.2)) = true := by decide +kernel
theorem row_ok {r : RowZ} (h : r ∈ refAll) : 0 ≤ r.1 ∧ r.1 < 256 ∧ infoOf r.1.toNat = some r.2 := of_decide_eq_true (List.all_eq_true.1 rows_all r h)
theorem ref_len : refAll.length ≤ 200 := by decide +kernel
theorem code_hit {r : RowZ} (h : r ∈ refAll) {s : ByteArray} (hs : str r.2.nm = s) : codeOf s = some r.1.toNat := by
  obtain ⟨h1, h2, h3⟩ := row_ok h
  exact code_of_hit (by omega) h3 hs
theorem code_miss {s : ByteArray} (h : ∀ r ∈ refAll, ¬ str r.2.nm = s) : codeOf s = none := by
  refine code_none fun c v hc hi hs => ?_
  have h1 := find_info hc
  rw [hi] at h1
  obtain ⟨r, h2, h3⟩ := Option.map_eq_some_iff.1 h1
  exact h r (List.mem_of_find?_eq_some h2) (by rw [h3]; exact hs)
theorem info_hit {r : RowZ} {c : Nat} (hc : r.1 = (c : Int)) (h : r ∈ refAll) : infoOf c = some r.2 := by
  have h1 := (row_ok h).2.2
  rw [hc, Int.toNat_natCast] at h1
  exact h1
theorem info_miss {c : Nat} (hc : c < 256) (h : ∀ r ∈ refAll, ¬ r.1 = (c : Int)) : infoOf c = none := by
  rw [← find_info hc]
  have : findC (c : Int) = none := by
    unfold findC
    rw [List.find?_eq_none]
    intro r hr
    simpa using h r hr
  rw [this]
  rfl
/-- A row's five cells. -/
theorem rowsC_at {l : List RowZ} {i : Nat} {r : RowZ} (h : l[i]? = some r) : ∀ k, k < 5 → (rowsC l)[i * 5 + k]? = (rowC r)[k]? := by
  induction l generalizing i with
  | nil => simp at h
  | cons x l ih =>
    intro k hk
    have hx : (rowC x).length = 5 := rfl
    show (rowC x ++ rowsC l)[i * 5 + k]? = _
    cases i with
    | zero =>
      simp at h
      subst h
      rw [List.getElem?_append_left (by rw [hx]; omega)]
      congr 1; omega
    | succ i =>
      rw [List.getElem?_append_right (by rw [hx]; omega), hx, ← ih (i := i) (by simpa using h) k hk]
      congr 1; omega
/-- All rows, as a law's reader sees them. -/
structure Rs (v : Value) (V : World) : Prop where
  it : ∃ g c, v = .slice (some ⟨g, 0, none⟩) refAll.length c ∧ g < V.heap.size ∧ ∀ j u, (rowsC refAll)[j]? = some u → V.cell? ⟨g, j, none⟩ = some u
theorem Rs.of {W V : World} {v : Value} (h : Al W refAll v V) : Rs v V := by
  rcases h.rows.2 with ⟨rfl, h0⟩ | ⟨g, cap, cur, rfl, hb, hg, _⟩
  · exact absurd h0 (by decide +kernel)
  · refine ⟨g, cap, rfl, lt_of hg, fun j u hj => ?_⟩
    have h1 := h.rows.cells (g := g) rfl j u hj
    have e : (⟨g, 0, none⟩ : Addr).add j = ⟨g, j, none⟩ := by unfold Addr.add; split <;> simp_all
    rwa [e] at h1
set_option maxRecDepth 100000 in
set_option maxHeartbeats 4000000 in
theorem rcode_c (s : ByteArray) (W : World) : Calls Tryd.prog 12 #[.string s] W (CodeR s W) := by
  have C := Lib.hid (rall_c W)
  go_enter Tryd.func12, Tryd.ntmps12
  go_wp2_with fail
  refine C.out.mono ?_
  rintro e V ⟨v, rfl, h⟩
  obtain ⟨g, c, rfl, hg, hc⟩ := (Rs.of h).it
  have HB := Lib.hid (And.intro h.below (And.intro hc hg))
  obtain ⟨N, hN⟩ : ∃ N, N = refAll.length := ⟨_, rfl⟩
  rw [← hN]
  have hN2 : (N : Int) ≤ 200 := by have := ref_len; omega
  have HN := Lib.hid hN
  clear h hg hc C hN
  go_wp2_with fail
  go_loop [5] (fun iv => ∃ i : Nat, i ≤ N ∧ iv = .int .i64 (i : Nat) ∧ ∀ j r, j < i → refAll[j]? = some r → ¬ str r.2.nm = s) (fun iv => N - (intOf iv).toNat)
  case atStart => exact ⟨0, Nat.zero_le _, rfl, fun j _ hj => by omega⟩
  case round =>
    obtain ⟨i, hi, rfl, hs⟩ := hrel
    have HS := Lib.hid hs
    clear hs
    by_cases hlt : i < N
    · have hlt2 : (i : Int) < (N : Int) := by omega
      obtain ⟨r, hr⟩ : ∃ r, refAll[i]? = some r := ⟨_, List.getElem?_eq_getElem (by rw [← HN.out]; exact hlt)⟩
      have k0 := HB.out.2.1 _ _ (rowsC_at hr 0 (by omega))
      have k1 := HB.out.2.1 _ _ (rowsC_at hr 1 (by omega))
      have HR := Lib.hid hr
      simp only [Nat.add_zero] at k0
      by_cases he : str r.2.nm = s
      · have HZ := Lib.hid (And.intro (code_hit (List.mem_of_getElem? hr) he) (row_ok (List.mem_of_getElem? hr)))
        clear hr
        have he2 : ((str r.2.nm).toList == s.toList) = true := by rw [he]; simp
        go_wp2_with fail
        go_ret2
        refine ⟨?_, HB.out.1⟩
        rw [HZ.out.1]
        show _ = Ending.returned (.tuple #[.int .u8 ((r.1.toNat : Nat) : Int), .bool true])
        rw [show ((r.1.toNat : Nat) : Int) = r.1 % 256 from by have := HZ.out.2; omega]
        rfl
      · have he2 := bytes_ne he
        have HZ := Lib.hid he
        clear hr he
        go_wp2_with fail
        go_round
        case rel =>
          refine ⟨i + 1, by omega, by go_num, fun j r2 hj hr2 => ?_⟩
          by_cases e : j = i
          · rw [e, HR.out] at hr2
            cases hr2
            exact HZ.out
          · exact HS.out j r2 (by omega) hr2
        case measure => simp [intOf]; omega
    · obtain rfl : i = N := by omega
      have e := code_miss (s := s) (fun r hr => by
        obtain ⟨j, hj⟩ := List.mem_iff_getElem?.1 hr
        exact HS.out j r (by have := (List.getElem?_eq_some_iff.1 hj).1; rw [HN.out]; exact this) hj)
      have HE := Lib.hid e
      clear e
      go_wp2_with fail
      go_ret2
      refine ⟨?_, HB.out.1⟩
      rw [HE.out]
      rfl
def OfR (c : Nat) (W : World) (e : Ending) (W' : World) : Prop := e = .returned (.tuple #[.agg (infO (infoOf c)), .bool (infoOf c).isSome]) ∧ Below W.heap.size W W'
set_option maxRecDepth 100000 in
set_option maxHeartbeats 4000000 in
theorem rof_c {c : Nat} (hc : c < 256) (W : World) : Calls Tryd.prog 10 #[.int .u8 (c : Nat)] W (OfR c W) := by
  have C := Lib.hid (rall_c (W.alloc (.cells #[.string ⟨#[]⟩, .int .u64 0, .int .i64 0, .int .i64 0] 28)))
  have HC := Lib.hid hc
  have hc2 : (c : Int) < 256 := by omega
  clear hc
  go_enter Tryd.func10, Tryd.ntmps10
  go_wp2_with fail
  refine C.out.mono ?_
  rintro e V ⟨v, rfl, h⟩
  obtain ⟨g, cc, rfl, hg, hr0⟩ := (Rs.of h).it
  have hbw := h.below
  rw [alloc_size] at hbw
  have hbox : V.heap[W.heap.size]? = some (.cells #[.string ⟨#[]⟩, .int .u64 0, .int .i64 0, .int .i64 0] 28 (0, 0)) := (hbw.block _ (by omega)).trans (heap_alloc_new _ _)
  have HB := Lib.hid (And.intro (show Below W.heap.size W V from ((Below.refl _ W).alloc (Nat.le_refl _) _).trans (hbw.mono (by omega))) (And.intro hr0 (And.intro hg hbox)))
  obtain ⟨⟨b0, b1, b2, b3⟩, f0, f1, f2, f3⟩ := cells4 hbox
  obtain ⟨N, hN⟩ : ∃ N, N = refAll.length := ⟨_, rfl⟩
  rw [← hN]
  have hN2 : (N : Int) ≤ 200 := by have := ref_len; omega
  have HN := Lib.hid hN
  clear h hg hr0 C hN hbw hbox
  go_wp2_with fail
  go_loop [5] (fun iv => ∃ i : Nat, i ≤ N ∧ iv = .int .i64 (i : Nat) ∧ ∀ j r, j < i → refAll[j]? = some r → ¬ r.1 = (c : Int)) (fun iv => N - (intOf iv).toNat)
  case atStart => exact ⟨0, Nat.zero_le _, rfl, fun j _ hj => by omega⟩
  case round =>
    obtain ⟨i, hi, rfl, hs⟩ := hrel
    have HS := Lib.hid hs
    clear hs
    by_cases hlt : i < N
    · have hlt2 : (i : Int) < (N : Int) := by omega
      obtain ⟨r, hr⟩ : ∃ r, refAll[i]? = some r := ⟨_, List.getElem?_eq_getElem (by rw [← HN.out]; exact hlt)⟩
      have k0 := HB.out.2.1 _ _ (rowsC_at hr 0 (by omega))
      have k1 := HB.out.2.1 _ _ (rowsC_at hr 1 (by omega))
      have k2 := HB.out.2.1 _ _ (rowsC_at hr 2 (by omega))
      have k3 := HB.out.2.1 _ _ (rowsC_at hr 3 (by omega))
      have k4 := HB.out.2.1 _ _ (rowsC_at hr 4 (by omega))
      have HR := Lib.hid hr
      simp only [Nat.add_zero] at k0
      by_cases he : r.1 = (c : Int)
      · have hio := info_hit he (List.mem_of_getElem? hr)
        have HIO := Lib.hid hio
        clear hr hio
        have he2 : (r.1 == (c : Int)) = true := by simpa using he
        go_wp2_with fail
        have h2 := heap_set4 HB.out.2.2.2 (.string (str r.2.nm)) (.int .u64 r.2.gas) (.int .i64 r.2.inn) (.int .i64 r.2.out)
        refine bodyPost_ret (results_cell_slot Tryd.results10 _ _ _ _ _ _ _ _ rfl rfl h2 Tryd.underlying28 rfl (by kernel_rfl)) rfl ⟨?_, below_set4 HB.out.1 (Nat.le_refl _) _ _ _ _⟩
        rw [HIO.out]
        rfl
      · have he2 : (r.1 == (c : Int)) = false := by simpa using he
        have HZ := Lib.hid he
        clear hr he
        go_wp2_with fail
        go_round
        case rel =>
          refine ⟨i + 1, by omega, by go_num, fun j r2 hj hr2 => ?_⟩
          by_cases e : j = i
          · rw [e, HR.out] at hr2
            cases hr2
            exact HZ.out
          · exact HS.out j r2 (by omega) hr2
        case measure => simp [intOf]; omega
    · obtain rfl : i = N := by omega
      have e := info_miss HC.out (fun r hr => by
        obtain ⟨j, hj⟩ := List.mem_iff_getElem?.1 hr
        exact HS.out j r (by have := (List.getElem?_eq_some_iff.1 hj).1; rw [HN.out]; exact this) hj)
      have HIO := Lib.hid e
      clear e
      go_wp2_with fail
      have h2 := heap_set4 HB.out.2.2.2 (.string ⟨#[]⟩) (.int .u64 0) (.int .i64 0) (.int .i64 0)
      refine bodyPost_ret (results_cell_slot Tryd.results10 _ _ _ _ _ _ _ _ rfl rfl h2 Tryd.underlying28 rfl (by kernel_rfl)) rfl ⟨?_, below_set4 HB.out.1 (Nat.le_refl _) _ _ _ _⟩
      rw [HIO.out]
      rfl
end Go.Proofs.YtfcmcccfclaefaaDoor
