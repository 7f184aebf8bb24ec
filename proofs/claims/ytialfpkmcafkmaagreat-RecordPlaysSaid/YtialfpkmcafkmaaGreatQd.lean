/- same: are two slices of texts the same? The chapter's examples. -/
import Derived.Test.YtialfpkmcafkmaaGreatQc
import Derived.BigQuiet
namespace Go.Proofs.YtialfpkmcafkmaaGreat
open Go.RowKit
section
variable {w : World} {B : Nat} {e : TypeId} {g cap n : Nat} {xs : List Value}
theorem own_form {v : Value} (h : w.ownsRow B e 1 v (n + 1) xs) : ∃ g cap, v = .slice (some ⟨g, 0, none⟩) (n + 1) cap ∧ B ≤ g ∧ g < w.heap.size ∧ n + 1 ≤ cap := by
  rcases h.2 with ⟨_, h0⟩ | ⟨g, cap, cur, rfl, hb, hg, hn, _⟩
  · omega
  · exact ⟨g, cap, rfl, hb, lt_of hg, hn⟩
theorem own_cell {v : Value} (h : w.ownsRow B e 1 v n xs) (hv : v = .slice (some ⟨g, 0, none⟩) n cap) (j : Nat) (u : Value) (hj : xs[j]? = some u) : w.cell? ⟨g, j, none⟩ = some u := by
  have h1 := h.cells (g := g) (by rw [hv]; rfl) j u hj
  have e : (⟨g, 0, none⟩ : Addr).add j = ⟨g, j, none⟩ := by unfold Addr.add; split <;> simp_all
  rwa [e] at h1
theorem own_free {v : Value} (h : w.ownsRow B e 1 v n xs) (hv : v = .slice (some ⟨g, 0, none⟩) n cap) (j : Nat) : w.frozen? ⟨g, j, none⟩ = false := by
  rcases h.2 with ⟨rfl, _⟩ | ⟨g', cap', cur, rfl, _, hg, _⟩
  · cases hv
  · cases hv; exact free_of hg j
end
theorem below_drewN {B : Nat} {W V : World} (h : Below B W V) (q : Nat) : Below B W (V.drewN q) := ⟨h.os, h.tape, h.output, h.size, h.block⟩
theorem OwnS.cell {B : Nat} {l : List (List UInt8)} {g n c : Nat} {W : World} (h : OwnS B l (.slice (some ⟨g, 0, none⟩) n c) W) (hn : l.length = n) {k : Nat} {t : List UInt8} (hk : l[k]? = some t) : W.cell? ⟨g, k, none⟩ = some (.string (str t)) := by
  subst hn
  exact own_cell h rfl k _ (by rw [List.getElem?_map, hk]; rfl)
theorem OwnS.ptr {B n : Nat} {l : List (List UInt8)} {v : Value} {W : World} (h : OwnS B l v W) (hn : l.length = n + 1) : ∃ g c, v = .slice (some ⟨g, 0, none⟩) (n + 1) c ∧ B ≤ g ∧ g < W.heap.size ∧ n + 1 ≤ c := by
  unfold OwnS at h
  rw [hn] at h
  exact own_form h
set_option maxRecDepth 100000 in
set_option maxHeartbeats 1000000 in
theorem same_c {B B' : Nat} {a b : List (List UInt8)} {v u : Value} {W : World} (h : OwnS B a v W) (h' : OwnS B' b u W) (hn : a.length < 1000000000) :
    Calls Tryz.prog 12 #[v, u] W fun e W' => e = .returned (.bool (decide (a = b))) ∧ Below W.heap.size W W' := by
  by_cases hl : a.length = b.length
  · by_cases h0 : a.length = 0
    · obtain rfl : a = [] := List.eq_nil_of_length_eq_zero h0
      obtain rfl : b = [] := List.eq_nil_of_length_eq_zero (hl.symm.trans h0)
      obtain ⟨a1, c1, rfl⟩ := h.form
      obtain ⟨a2, c2, rfl⟩ := h'.form
      simp only [List.length_nil] at *
      go_enter Tryz.func12, Tryz.ntmps12
      go_wp2_with fail
      go_loopw [5] (fun i wr => i = .int .i64 0 ∧ wr = W) (fun _ _ => 0)
      case atStart => exact ⟨rfl, rfl⟩
      case round =>
        obtain ⟨rfl, rfl⟩ := hrel
        go_wp2_with fail
        go_ret
        exact ⟨rfl, Below.refl _ _⟩
    · obtain ⟨n, hn1⟩ : ∃ n, a.length = n + 1 := ⟨a.length - 1, by omega⟩
      obtain ⟨g1, c1, rfl, _, q1, q2⟩ := h.ptr hn1
      obtain ⟨g2, c2, rfl, _, q3, q4⟩ := h'.ptr (hl.symm.trans hn1)
      have HC := Lib.hid (fun (k : Nat) (x y : List UInt8) (hx : a[k]? = some x) (hy : b[k]? = some y) (V : World) (hV : Below W.heap.size W V) =>
        show V.cell? ⟨g1, k, none⟩ = some (.string (str x)) ∧ V.cell? ⟨g2, k, none⟩ = some (.string (str y)) from
          ⟨(World.cell?_of_block (hV.block _ q1)).trans (h.cell hn1 hx), (World.cell?_of_block (hV.block _ q3)).trans (h'.cell (hl.symm.trans hn1) hy)⟩)
      have hnn : (n : Int) + 1 < 1000000000 := by omega
      have hc1 : (n : Int) + 1 ≤ (c1 : Int) := by omega
      have hc2 : (n : Int) + 1 ≤ (c2 : Int) := by omega
      clear h h' q2 q4
      have HA := Lib.hid (And.intro hn1 hl)
      clear hn1 hl h0 hn
      go_enter Tryz.func12, Tryz.ntmps12
      go_wp2_with fail
      go_loopw [5] (fun i wr => ∃ k : Nat, k ≤ n + 1 ∧ i = .int .i64 k ∧ a.take k = b.take k ∧ Below W.heap.size W wr) (fun i _ => n + 1 - (intOf i).toNat)
      case atStart => exact ⟨0, by omega, rfl, rfl, Below.refl _ _⟩
      case round =>
        obtain ⟨k, hk, rfl, ht, hb⟩ := hrel
        by_cases hlt : k < n + 1
        · have hlti : (k : Int) < (n : Int) + 1 := by omega
          have hk0 : (0 : Int) ≤ (k : Int) := by omega
          obtain ⟨x, hx⟩ : ∃ x, a[k]? = some x := ⟨_, List.getElem?_eq_getElem (by have := HA.out; omega)⟩
          obtain ⟨y, hy⟩ : ∃ y, b[k]? = some y := ⟨_, List.getElem?_eq_getElem (by have := HA.out; omega)⟩
          obtain ⟨d1, d2⟩ := HC.out k x y hx hy _ hb
          have HB := Lib.hid hb
          have HT := Lib.hid (And.intro ht (And.intro hx hy))
          clear hb ht hx hy HC
          by_cases hxy : x = y
          · subst hxy
            have HE := Lib.hid (show a.take (k + 1) = b.take (k + 1) by rw [List.take_add_one, List.take_add_one, HT.out.1, HT.out.2.1, HT.out.2.2])
            have hw : IntKind.i64.wrap ((k : Int) + 1) = (k : Int) + 1 := IntWalk.i64_in _ (by omega)
            generalize str x = sx at *
            have hq : (sx.toList == sx.toList) = true := by simp
            go_wp2_with fail
            go_quiet (fail)
            have HB2 : Below W.heap.size W (wr.drewN nq) := below_drewN HB.out nq
            clear HB d1 d2
            generalize wr.drewN nq = wq at *
            go_wp2_with fail
            go_roundw
            case rel => exact ⟨k + 1, by omega, by go_num, HE.out, HB2⟩
            case measure => simp [intOf]; omega
          · have HE := Lib.hid (show decide (a = b) = false by
              rw [decide_eq_false_iff_not]
              rintro rfl
              exact hxy (by have h1 := HT.out.2.1; rw [HT.out.2.2] at h1; injection h1 with h1; exact h1.symm))
            have hq : ((str x).toList == (str y).toList) = false := by rw [str_toList, str_toList]; simpa using hxy
            generalize str x = sx at *
            generalize str y = sy at *
            go_wp2_with fail
            go_quiet (fail)
            have HB2 : Below W.heap.size W (wr.drewN nq) := below_drewN HB.out nq
            clear HB d1 d2
            generalize wr.drewN nq = wq at *
            go_wp2_with fail
            go_ret
            exact ⟨by rw [HE.out]; rfl, HB2⟩
        · obtain rfl : k = n + 1 := by omega
          have HE := Lib.hid (show decide (a = b) = true by
            rw [decide_eq_true_iff]
            have h1 := ht
            rw [List.take_of_length_le (by have := HA.out; omega), List.take_of_length_le (by have := HA.out; omega)] at h1
            exact h1)
          have HB := Lib.hid hb
          clear hb ht HC
          go_wp2_with fail
          go_ret
          exact ⟨by rw [HE.out]; rfl, HB.out⟩
  · have HE := Lib.hid (show decide (a = b) = false by
      rw [decide_eq_false_iff_not]
      rintro rfl
      exact hl rfl)
    obtain ⟨a1, c1, rfl⟩ := h.form
    obtain ⟨a2, c2, rfl⟩ := h'.form
    have hli : ((a.length : Int) == (b.length : Int)) = false := by simpa using (by omega : ¬ (a.length : Int) = (b.length : Int))
    clear h h' hl
    generalize decide (a = b) = q at *
    generalize a.length = n at *
    generalize b.length = m at *
    go_enter Tryz.func12, Tryz.ntmps12
    go_wp2_with fail
    go_ret
    exact ⟨by rw [HE.out]; rfl, Below.refl _ _⟩
set_option maxRecDepth 100000 in
set_option maxHeartbeats 2000000 in
theorem exam_c (W : World) : Calls Tryz.prog 4 #[] W fun e W' => e = .returned (.bool true) ∧ Below W.heap.size W W' := by
  have C1 := Lib.hid (fun W => frame_c [120] (by decide) W)
  have hx : firstP [121] = none := by
    cases h : firstP [121] with
    | none => rfl
    | some t =>
      obtain ⟨_, r, hr⟩ := firstP_some.1 h
      have := congrArg List.length hr
      rw [List.length_append, fr_len] at this
      rw [show [(121 : UInt8)].length = 1 from rfl] at this
      omega
  have hall : ∀ t ∈ [[(120 : UInt8)], [120]], t.length ≤ 65536 := by
    intro t ht
    have : t = [120] := by simpa using ht
    rw [this]; decide
  have HFs := Lib.hid (show Fs (fr [120] ++ fr [120] ++ [121]) [[120], [120]] [121] from ⟨by simp [frs], hall, hx⟩)
  have hfl : (fr [120]).length = 9 := by rw [fr_len]; rfl
  have C2 := Lib.hid (fun W => frames_c (fr [120] ++ fr [120] ++ [121]) (by rw [List.length_append, List.length_append, hfl]; decide) W)
  have hz := str_size (fr [120])
  rw [hfl] at hz
  have HE := Lib.hid (show str (fr [120]) ++ str (fr [120]) ++ (⟨#[121]⟩ : ByteArray) = str (fr [120] ++ fr [120] ++ [121]) by rw [← str_app, ← str_app]; rfl)
  have HL := Lib.hid (show (frs [[120], [120]]).length = 18 by simp only [frs, List.length_append, hfl, List.length_nil])
  have hx120 : (⟨#[120]⟩ : ByteArray) = str [120] := rfl
  go_enter Tryz.func4, Tryz.ntmps4
  go_wp2_with fail
  refine (C1.out _).mono ?_
  rintro e w1 ⟨rfl, h1⟩
  have B1 := Lib.hid h1; clear h1 C1
  generalize str (fr [120]) = f at *
  go_wp2_with fail
  rw [HE.out]
  refine (C2.out _).mono ?_
  rintro e w2 ⟨l, r, v, rfl, h1, h2, h3⟩
  obtain ⟨rfl, rfl⟩ := h1.inj HFs.out
  obtain ⟨g, c, rfl, _, _, q3⟩ := h2.ptr (n := 1) rfl
  have c0 := h2.cell (k := 0) rfl rfl
  have B2 := Lib.hid (B1.out.trans (h3.mono B1.out.size)); clear h1 C2 B1 h2 h3
  rw [HL.out]
  have hq : ((str [120]).toList == (str [120]).toList) = true := by simp
  have hc1 : (2 : Int) ≤ (c : Int) := by omega
  go_wp2_with fail
  go_ret
  exact ⟨rfl, B2.out⟩
end Go.Proofs.YtialfpkmcafkmaaGreat
