/- The reference's size. -/
import Derived.Test.YtgaaalacoeainaaLr7
namespace Go.Proofs.Ytgaaalacoeainaa
open Go.RowKit

theorem val_app_le (a b : List UInt8) : val a ≤ val (a ++ b) := by
  refine snoc_ind (P := fun b => val a ≤ val (a ++ b)) (by simp) (fun l c ih => ?_) b
  rw [← List.append_assoc, val_snoc]; omega
theorem val_take_le (r : List UInt8) {i j : Nat} (h : i ≤ j) : val (r.take i) ≤ val (r.take j) := by
  have e : r.take j = r.take i ++ (r.take j).drop i := by
    have h1 := List.take_append_drop i (r.take j)
    rw [List.take_take, Nat.min_eq_left h] at h1
    exact h1.symm
  rw [e]; exact val_app_le _ _
/-- What size tells of an item's bytes, whose first one is m, with so many above the least of its kind. -/
def SizeB (s : List UInt8) (a : Nat) (o : Option (List UInt8 × List UInt8)) (e : Ending) : Prop :=
  match o with
  | none => ∃ p q : Int, e = .returned (.tuple #[.int .i64 p, .int .i64 q, .bool false])
  | some (x, r) => ∃ h : Nat, e = .returned (.tuple #[.int .i64 (h : Nat), .int .i64 (x.length : Nat), .bool true]) ∧ (h = 1 ↔ a ≤ 55) ∧ h ≤ s.length ∧ s.drop h = x ++ r ∧ 1 ≤ h
theorem tk_none {n : Nat} {s : List UInt8} (h : ¬ n ≤ s.length) : tk n s = none := if_neg h
theorem tk_some {n : Nat} {s : List UInt8} (h : n ≤ s.length) : tk n s = some (s.take n, s.drop n) := if_pos h
theorem bodyP_long {a : Nat} (r : List UInt8) (ha : ¬ a ≤ 55) (k : Nat) (hk : a - 55 = k) : bodyP a r = if k ≤ r.length then (if smallL (r.take k) = true ∧ 55 < val (r.take k) then tk (val (r.take k)) (r.drop k) else none) else none := by
  subst hk
  unfold bodyP
  rw [if_neg ha]
  by_cases h : a - 55 ≤ r.length
  · rw [tk_some h, if_pos h]
  · rw [tk_none h, if_neg h]
set_option maxRecDepth 100000 in
set_option maxHeartbeats 4000000 in
theorem rsize_none (w : World) : Calls Try.prog 55 #[.string ⟨#[]⟩] w fun e w' => e = .returned (.tuple #[.int .i64 0, .int .i64 0, .bool false]) ∧ w' = w := by
  go_enter Try.func55, Try.ntmps55
  go_wp2_with fail
  exact bodyPost_ret (v := .tuple #[.int .i64 0, .int .i64 0, .bool false]) (by simp [results, Try.results55, go_sem]) rfl ⟨rfl, rfl⟩
set_option maxRecDepth 100000 in
set_option maxHeartbeats 4000000 in
theorem rsize_one (b : UInt8) (r : List UInt8) (hb : b.toNat < 128) (w : World) : Calls Try.prog 55 #[.string (str (b :: r))] w fun e w' => e = .returned (.tuple #[.int .i64 0, .int .i64 1, .bool true]) ∧ w' = w := by
  have hix := rindex0 b r
  have hz : ¬ ((str (b :: r)).size : Int) = 0 := by rw [str_size, List.length_cons]; omega
  have hz2 : (((str (b :: r)).size : Int) == 0) = false := by rw [beq_eq_false_iff_ne]; exact hz
  have h1 : ¬ (192 : Int) ≤ (b.toNat : Int) := by omega
  have h2 : (b.toNat : Int) < 128 := by omega
  generalize str (b :: r) = t at *
  generalize b.toNat = m at *
  go_enter Try.func55, Try.ntmps55
  go_wp2_with fail
  exact bodyPost_ret (v := .tuple #[.int .i64 0, .int .i64 1, .bool true]) (by simp [results, Try.results55, go_sem]) rfl ⟨rfl, rfl⟩
set_option maxRecDepth 100000 in
set_option maxHeartbeats 8000000 in
theorem rsize_128 (b : UInt8) (r : List UInt8) (hb : 128 ≤ b.toNat ∧ b.toNat < 192) (hr : r.length < 100000) (w : World) : Calls Try.prog 55 #[.string (str (b :: r))] w fun e w' => SizeB (b :: r) (b.toNat - 128) (bodyP (b.toNat - 128) r) e ∧ w' = w := by
  have hix := rindex0 b r
  have hz : ¬ ((str (b :: r)).size : Int) = 0 := by rw [str_size, List.length_cons]; omega
  have hz2 : (((str (b :: r)).size : Int) == 0) = false := by rw [beq_eq_false_iff_ne]; exact hz
  have hb8 := b.toNat_lt
  have h1 : ¬ (192 : Int) ≤ (b.toNat : Int) := by omega
  have h2 : ¬ (b.toNat : Int) < 128 := by omega
  obtain ⟨a, ha⟩ : ∃ a, a = b.toNat - 128 := ⟨_, rfl⟩
  have h3 : (b.toNat : Int) - 128 = (a : Int) := by omega
  have ha64 : a < 64 := by omega
  rw [← ha]
  have hsz : ((str (b :: r)).size : Int) - 1 = (r.length : Int) := by rw [str_size, List.length_cons]; omega
  by_cases h55 : a ≤ 55
  · have h4 : (a : Int) ≤ 55 := by omega
    by_cases hl : a ≤ r.length
    · have h5 : (a : Int) ≤ (r.length : Int) := by omega
      have HF := Lib.hid (show SizeB (b :: r) a (bodyP a r) (.returned (.tuple #[.int .i64 1, .int .i64 (a : Nat), .bool true])) from by
        unfold bodyP
        rw [if_pos h55, tk_some hl]
        exact ⟨1, by rw [List.length_take, Nat.min_eq_left hl]; rfl, by simp [h55], by simp, by simp, Nat.le_refl _⟩)
      clear hl h55 ha
      generalize str (b :: r) = t at *
      generalize b.toNat = m at *
      go_enter Try.func55, Try.ntmps55
      go_wp2_with fail
      exact bodyPost_ret (v := .tuple #[.int .i64 1, .int .i64 (a : Nat), .bool true]) (by simp [results, Try.results55, go_sem]) rfl ⟨HF.out, rfl⟩
    · have h5 : ¬ (a : Int) ≤ (r.length : Int) := by omega
      have HF := Lib.hid (show SizeB (b :: r) a (bodyP a r) (.returned (.tuple #[.int .i64 1, .int .i64 (a : Nat), .bool false])) from by
        unfold bodyP
        rw [if_pos h55, tk_none hl]
        exact ⟨_, _, rfl⟩)
      clear hl h55 ha
      generalize str (b :: r) = t at *
      generalize b.toNat = m at *
      go_enter Try.func55, Try.ntmps55
      go_wp2_with fail
      exact bodyPost_ret (v := .tuple #[.int .i64 1, .int .i64 (a : Nat), .bool false]) (by simp [results, Try.results55, go_sem]) rfl ⟨HF.out, rfl⟩
  · have h4 : ¬ (a : Int) ≤ 55 := by omega
    obtain ⟨k, hk⟩ : ∃ k, a - 55 = k := ⟨_, rfl⟩
    have h5 : (a : Int) - 55 = (k : Int) := by omega
    have hk8 : k ≤ 8 := by omega
    have hsz2 := str_size (b :: r)
    rw [List.length_cons] at hsz2
    rw [bodyP_long r h55 k hk]
    have h77 : ∀ e, (∃ p q : Int, e = Ending.returned (.tuple #[.int .i64 p, .int .i64 q, .bool false])) → SizeB (b :: r) a none e := fun _ h => h
    by_cases hl : k ≤ r.length
    · rw [if_pos hl]
      have h6 : ¬ ((str (b :: r)).size : Int) < 1 + (k : Int) := by omega
      obtain ⟨c, q, rfl⟩ : ∃ c q, r = c :: q := by
        rcases r with _ | ⟨c, q⟩
        · simp at hl; omega
        · exact ⟨c, q, rfl⟩
      have hix1 := rindexk (b :: c :: q) 1 (by simp)
      have hc1 : ((1 : Nat) : Int) = 1 := rfl
      rw [hc1, show (b :: c :: q)[1] = c from rfl] at hix1
      by_cases hc0 : c.toNat = 0
      · have hsm : smallL ((c :: q).take k) = false := by
          obtain ⟨k', rfl⟩ : ∃ k', k = k' + 1 := ⟨k - 1, by omega⟩
          have : c = 0 := UInt8.toNat_inj.1 (by simpa using hc0)
          subst this
          simp [smallL]
        rw [hsm]
        simp only [Bool.false_eq_true, false_and, if_false]
        rw [hc0] at hix1
        have HF := Lib.hid (h77 _ ⟨0, 0, rfl⟩)
        clear h77 hsm hc0 hl hk ha h55 hsz2
        generalize str (b :: c :: q) = t at *
        generalize b.toNat = m at *
        go_enter Try.func55, Try.ntmps55
        go_wp2_with fail
        exact bodyPost_ret (v := .tuple #[.int .i64 0, .int .i64 0, .bool false]) (by simp [results, Try.results55, go_sem]) rfl ⟨HF.out, rfl⟩
      · have hsm : smallL ((c :: q).take k) = true := by
          obtain ⟨k', rfl⟩ : ∃ k', k = k' + 1 := ⟨k - 1, by omega⟩
          have : ¬ c = 0 := fun e => hc0 (by rw [e]; rfl)
          simp only [smallL, Bool.and_eq_true, decide_eq_true_eq, List.length_take]
          exact ⟨by omega, by simpa using this⟩
        have hci : ((c.toNat : Int) == 0) = false := by rw [beq_eq_false_iff_ne]; omega
        have hci2 : ¬ (c.toNat : Int) = 0 := by omega
        rw [hsm]
        simp only [true_and]
        obtain ⟨O, hO⟩ : ∃ O, O = (if 55 < val ((c :: q).take k) then tk (val ((c :: q).take k)) ((c :: q).drop k) else none) := ⟨_, rfl⟩
        rw [← hO]
        have HO := Lib.hid hO
        clear hO
        have HL := Lib.hid (And.intro hl (And.intro hr (And.intro h55 (And.intro hk8 hsz2))))
        obtain ⟨N, hN⟩ : ∃ N, N = (c :: q).length := ⟨_, rfl⟩
        rw [← hN] at hsz
        have hNb : N < 100000 := by omega
        have HN0 := Lib.hid hN
        clear hN
        have HIX := Lib.hid (fun i (hi : i < (c :: q).length) => rindexk (b :: c :: q) (1 + i) (by simp at hi ⊢; omega))
        have HF := Lib.hid h77
        have h8i : (k : Int) ≤ 8 := by omega
        clear hsm hc0 hl hk ha h55 hsz2 h77 hr
        generalize ht : str (b :: c :: q) = t at *
        have HT := Lib.hid ht
        clear ht
        generalize b.toNat = m at *
        go_enter Try.func55, Try.ntmps55
        go_wp2_with fail
        go_loopw [8, 9] (fun n i wr => ∃ j : Nat, n = .int .i64 (val ((c :: q).take j) : Nat) ∧ i = .int .i64 j ∧ j ≤ k ∧ val ((c :: q).take j) < 1000000000 ∧ wr = w) (fun _ i _ => k - (intOf i).toNat)
        case atStart => exact ⟨0, rfl, rfl, Nat.zero_le _, by rw [List.take_zero]; decide, rfl⟩
        case round =>
          obtain ⟨j, rfl, rfl, hj, hv, rfl⟩ := hrel
          have HV := Lib.hid (val_take_le (c :: q) hj)
          by_cases hjk : j < k
          · have h7 : (j : Int) < (k : Int) := by omega
            by_cases hbig : 1048576 < val ((c :: q).take j)
            · have h8 : (1048576 : Int) < (val ((c :: q).take j) : Int) := by omega
              have HN := Lib.hid (show SizeB (b :: c :: q) a O (.returned (.tuple #[.int .i64 0, .int .i64 0, .bool false])) from by
                have h9 := HV.out
                have h10 := HL.out
                rw [HO.out, if_pos (by omega), tk_none (by rw [List.length_drop]; omega)]
                exact HF.out _ ⟨0, 0, rfl⟩)
              clear hbig HV
              generalize val ((c :: q).take j) = v at *
              go_wp2_with fail
              exact bodyPost_ret (v := .tuple #[.int .i64 0, .int .i64 0, .bool false]) (by simp [results, Try.results55, go_sem]) rfl ⟨HN.out, rfl⟩
            · have h8 : ¬ (1048576 : Int) < (val ((c :: q).take j) : Int) := by omega
              have hjl : j < (c :: q).length := by have := HL.out; omega
              have hxj := HIX.out j hjl
              obtain ⟨d, hd⟩ : ∃ d, d = (c :: q)[j]'hjl := ⟨_, rfl⟩
              rw [show (b :: c :: q)[1 + j]'(by simp at hjl ⊢; omega) = d by rw [hd]; simp [Nat.add_comm 1 j]] at hxj
              have hd8 := d.toNat_lt
              have hc2 : ((1 + j : Nat) : Int) = 1 + (j : Int) := by omega
              rw [hc2] at hxj
              have HVN := Lib.hid (show val ((c :: q).take (j + 1)) = val ((c :: q).take j) * 256 + d.toNat by rw [List.take_succ_eq_append_getElem hjl, val_snoc, ← hd])
              clear HV hd
              obtain ⟨v, hv2⟩ : ∃ v, v = val ((c :: q).take j) := ⟨_, rfl⟩
              rw [← hv2] at h8 hv hbig HVN
              rw [← hv2]
              clear hv2
              generalize d.toNat = dn at *
              go_wp2_with fail
              go_roundw
              case rel => exact ⟨j + 1, by rw [HVN.out]; go_num, by go_num, by omega, by rw [HVN.out]; omega, trivial⟩
              case measure => simp [intOf]; omega
          · have h7 : ¬ (j : Int) < (k : Int) := by omega
            obtain rfl : j = k := by omega
            clear hjk HV
            have hk1 : 1 + (j : Int) = ((1 + j : Nat) : Int) := by omega
            have hsl : (t.size : Int) - 1 - (j : Int) = (((c :: q).drop j).length : Int) := by
              have := HL.out; rw [List.length_drop]; omega
            have hsl' := hsl
            rw [hsz] at hsl'
            have hdb : ((c :: q).drop j).length ≤ 100000 := by have := HL.out; rw [List.length_drop]; omega
            by_cases hn5 : 55 < val ((c :: q).take j)
            · have h8 : (55 : Int) < (val ((c :: q).take j) : Int) := by omega
              have HO2 := HO.out
              rw [if_pos hn5] at HO2
              by_cases hn6 : val ((c :: q).take j) ≤ ((c :: q).drop j).length
              · have h9 : (val ((c :: q).take j) : Int) ≤ (((c :: q).drop j).length : Int) := by omega
                have HN := Lib.hid (show SizeB (b :: c :: q) a O (.returned (.tuple #[.int .i64 (1 + (j : Int)), .int .i64 (val ((c :: q).take j) : Nat), .bool true])) from by
                  rw [HO2, tk_some hn6]
                  have h10 := HL.out
                  refine ⟨1 + j, by rw [List.length_take, Nat.min_eq_left hn6, hk1], ⟨fun h => by omega, fun h => absurd h h10.2.2.1⟩, by simp at h10 ⊢; omega, ?_, by omega⟩
                  rw [Nat.add_comm 1 j, List.take_append_drop]; rfl)
                clear hn5 hn6 hk1 HF HO2
                generalize ((c :: q).drop j).length = dl at *
                generalize val ((c :: q).take j) = v at *
                go_wp2_with fail
                exact bodyPost_ret (v := .tuple #[.int .i64 (1 + (j : Int)), .int .i64 (v : Nat), .bool true]) (by simp [results, Try.results55, go_sem]) rfl ⟨HN.out, rfl⟩
              · have h9 : ¬ (val ((c :: q).take j) : Int) ≤ (((c :: q).drop j).length : Int) := by omega
                have HN := Lib.hid (show SizeB (b :: c :: q) a O (.returned (.tuple #[.int .i64 (1 + (j : Int)), .int .i64 (val ((c :: q).take j) : Nat), .bool false])) from by
                  rw [HO2, tk_none hn6]
                  exact HF.out _ ⟨_, _, rfl⟩)
                clear hn5 hn6 hk1 HF HO2
                generalize ((c :: q).drop j).length = dl at *
                generalize val ((c :: q).take j) = v at *
                go_wp2_with fail
                exact bodyPost_ret (v := .tuple #[.int .i64 (1 + (j : Int)), .int .i64 (v : Nat), .bool false]) (by simp [results, Try.results55, go_sem]) rfl ⟨HN.out, rfl⟩
            · have h8 : ¬ (55 : Int) < (val ((c :: q).take j) : Int) := by omega
              have HN := Lib.hid (show SizeB (b :: c :: q) a O (.returned (.tuple #[.int .i64 (1 + (j : Int)), .int .i64 (val ((c :: q).take j) : Nat), .bool false])) from by
                rw [HO.out, if_neg hn5]
                exact HF.out _ ⟨_, _, rfl⟩)
              clear hn5 hk1 HF
              generalize val ((c :: q).take j) = v at *
              go_wp2_with fail
              exact bodyPost_ret (v := .tuple #[.int .i64 (1 + (j : Int)), .int .i64 (v : Nat), .bool false]) (by simp [results, Try.results55, go_sem]) rfl ⟨HN.out, rfl⟩
    · rw [if_neg hl]
      have h6 : ((str (b :: r)).size : Int) < 1 + (k : Int) := by omega
      have HF := Lib.hid (h77 _ ⟨0, 0, rfl⟩)
      clear h77 hl hk ha h55 hsz2
      generalize str (b :: r) = t at *
      generalize b.toNat = m at *
      go_enter Try.func55, Try.ntmps55
      go_wp2_with fail
      exact bodyPost_ret (v := .tuple #[.int .i64 0, .int .i64 0, .bool false]) (by simp [results, Try.results55, go_sem]) rfl ⟨HF.out, rfl⟩
set_option maxRecDepth 100000 in
set_option maxHeartbeats 8000000 in
theorem rsize_192 (b : UInt8) (r : List UInt8) (hb : 192 ≤ b.toNat) (hr : r.length < 100000) (w : World) : Calls Try.prog 55 #[.string (str (b :: r))] w fun e w' => SizeB (b :: r) (b.toNat - 192) (bodyP (b.toNat - 192) r) e ∧ w' = w := by
  have hix := rindex0 b r
  have hz : ¬ ((str (b :: r)).size : Int) = 0 := by rw [str_size, List.length_cons]; omega
  have hz2 : (((str (b :: r)).size : Int) == 0) = false := by rw [beq_eq_false_iff_ne]; exact hz
  have hb8 := b.toNat_lt
  have h1 : (192 : Int) ≤ (b.toNat : Int) := by omega
  have h2 : ¬ (b.toNat : Int) < 128 := by omega
  obtain ⟨a, ha⟩ : ∃ a, a = b.toNat - 192 := ⟨_, rfl⟩
  have h3 : (b.toNat : Int) - 192 = (a : Int) := by omega
  have ha64 : a < 64 := by omega
  rw [← ha]
  have hsz : ((str (b :: r)).size : Int) - 1 = (r.length : Int) := by rw [str_size, List.length_cons]; omega
  by_cases h55 : a ≤ 55
  · have h4 : (a : Int) ≤ 55 := by omega
    by_cases hl : a ≤ r.length
    · have h5 : (a : Int) ≤ (r.length : Int) := by omega
      have HF := Lib.hid (show SizeB (b :: r) a (bodyP a r) (.returned (.tuple #[.int .i64 1, .int .i64 (a : Nat), .bool true])) from by
        unfold bodyP
        rw [if_pos h55, tk_some hl]
        exact ⟨1, by rw [List.length_take, Nat.min_eq_left hl]; rfl, by simp [h55], by simp, by simp, Nat.le_refl _⟩)
      clear hl h55 ha
      generalize str (b :: r) = t at *
      generalize b.toNat = m at *
      go_enter Try.func55, Try.ntmps55
      go_wp2_with fail
      exact bodyPost_ret (v := .tuple #[.int .i64 1, .int .i64 (a : Nat), .bool true]) (by simp [results, Try.results55, go_sem]) rfl ⟨HF.out, rfl⟩
    · have h5 : ¬ (a : Int) ≤ (r.length : Int) := by omega
      have HF := Lib.hid (show SizeB (b :: r) a (bodyP a r) (.returned (.tuple #[.int .i64 1, .int .i64 (a : Nat), .bool false])) from by
        unfold bodyP
        rw [if_pos h55, tk_none hl]
        exact ⟨_, _, rfl⟩)
      clear hl h55 ha
      generalize str (b :: r) = t at *
      generalize b.toNat = m at *
      go_enter Try.func55, Try.ntmps55
      go_wp2_with fail
      exact bodyPost_ret (v := .tuple #[.int .i64 1, .int .i64 (a : Nat), .bool false]) (by simp [results, Try.results55, go_sem]) rfl ⟨HF.out, rfl⟩
  · have h4 : ¬ (a : Int) ≤ 55 := by omega
    obtain ⟨k, hk⟩ : ∃ k, a - 55 = k := ⟨_, rfl⟩
    have h5 : (a : Int) - 55 = (k : Int) := by omega
    have hk8 : k ≤ 8 := by omega
    have hsz2 := str_size (b :: r)
    rw [List.length_cons] at hsz2
    rw [bodyP_long r h55 k hk]
    have h77 : ∀ e, (∃ p q : Int, e = Ending.returned (.tuple #[.int .i64 p, .int .i64 q, .bool false])) → SizeB (b :: r) a none e := fun _ h => h
    by_cases hl : k ≤ r.length
    · rw [if_pos hl]
      have h6 : ¬ ((str (b :: r)).size : Int) < 1 + (k : Int) := by omega
      obtain ⟨c, q, rfl⟩ : ∃ c q, r = c :: q := by
        rcases r with _ | ⟨c, q⟩
        · simp at hl; omega
        · exact ⟨c, q, rfl⟩
      have hix1 := rindexk (b :: c :: q) 1 (by simp)
      have hc1 : ((1 : Nat) : Int) = 1 := rfl
      rw [hc1, show (b :: c :: q)[1] = c from rfl] at hix1
      by_cases hc0 : c.toNat = 0
      · have hsm : smallL ((c :: q).take k) = false := by
          obtain ⟨k', rfl⟩ : ∃ k', k = k' + 1 := ⟨k - 1, by omega⟩
          have : c = 0 := UInt8.toNat_inj.1 (by simpa using hc0)
          subst this
          simp [smallL]
        rw [hsm]
        simp only [Bool.false_eq_true, false_and, if_false]
        rw [hc0] at hix1
        have HF := Lib.hid (h77 _ ⟨0, 0, rfl⟩)
        clear h77 hsm hc0 hl hk ha h55 hsz2
        generalize str (b :: c :: q) = t at *
        generalize b.toNat = m at *
        go_enter Try.func55, Try.ntmps55
        go_wp2_with fail
        exact bodyPost_ret (v := .tuple #[.int .i64 0, .int .i64 0, .bool false]) (by simp [results, Try.results55, go_sem]) rfl ⟨HF.out, rfl⟩
      · have hsm : smallL ((c :: q).take k) = true := by
          obtain ⟨k', rfl⟩ : ∃ k', k = k' + 1 := ⟨k - 1, by omega⟩
          have : ¬ c = 0 := fun e => hc0 (by rw [e]; rfl)
          simp only [smallL, Bool.and_eq_true, decide_eq_true_eq, List.length_take]
          exact ⟨by omega, by simpa using this⟩
        have hci : ((c.toNat : Int) == 0) = false := by rw [beq_eq_false_iff_ne]; omega
        have hci2 : ¬ (c.toNat : Int) = 0 := by omega
        rw [hsm]
        simp only [true_and]
        obtain ⟨O, hO⟩ : ∃ O, O = (if 55 < val ((c :: q).take k) then tk (val ((c :: q).take k)) ((c :: q).drop k) else none) := ⟨_, rfl⟩
        rw [← hO]
        have HO := Lib.hid hO
        clear hO
        have HL := Lib.hid (And.intro hl (And.intro hr (And.intro h55 (And.intro hk8 hsz2))))
        obtain ⟨N, hN⟩ : ∃ N, N = (c :: q).length := ⟨_, rfl⟩
        rw [← hN] at hsz
        have hNb : N < 100000 := by omega
        have HN0 := Lib.hid hN
        clear hN
        have HIX := Lib.hid (fun i (hi : i < (c :: q).length) => rindexk (b :: c :: q) (1 + i) (by simp at hi ⊢; omega))
        have HF := Lib.hid h77
        have h8i : (k : Int) ≤ 8 := by omega
        clear hsm hc0 hl hk ha h55 hsz2 h77 hr
        generalize ht : str (b :: c :: q) = t at *
        have HT := Lib.hid ht
        clear ht
        generalize b.toNat = m at *
        go_enter Try.func55, Try.ntmps55
        go_wp2_with fail
        go_loopw [8, 9] (fun n i wr => ∃ j : Nat, n = .int .i64 (val ((c :: q).take j) : Nat) ∧ i = .int .i64 j ∧ j ≤ k ∧ val ((c :: q).take j) < 1000000000 ∧ wr = w) (fun _ i _ => k - (intOf i).toNat)
        case atStart => exact ⟨0, rfl, rfl, Nat.zero_le _, by rw [List.take_zero]; decide, rfl⟩
        case round =>
          obtain ⟨j, rfl, rfl, hj, hv, rfl⟩ := hrel
          have HV := Lib.hid (val_take_le (c :: q) hj)
          by_cases hjk : j < k
          · have h7 : (j : Int) < (k : Int) := by omega
            by_cases hbig : 1048576 < val ((c :: q).take j)
            · have h8 : (1048576 : Int) < (val ((c :: q).take j) : Int) := by omega
              have HN := Lib.hid (show SizeB (b :: c :: q) a O (.returned (.tuple #[.int .i64 0, .int .i64 0, .bool false])) from by
                have h9 := HV.out
                have h10 := HL.out
                rw [HO.out, if_pos (by omega), tk_none (by rw [List.length_drop]; omega)]
                exact HF.out _ ⟨0, 0, rfl⟩)
              clear hbig HV
              generalize val ((c :: q).take j) = v at *
              go_wp2_with fail
              exact bodyPost_ret (v := .tuple #[.int .i64 0, .int .i64 0, .bool false]) (by simp [results, Try.results55, go_sem]) rfl ⟨HN.out, rfl⟩
            · have h8 : ¬ (1048576 : Int) < (val ((c :: q).take j) : Int) := by omega
              have hjl : j < (c :: q).length := by have := HL.out; omega
              have hxj := HIX.out j hjl
              obtain ⟨d, hd⟩ : ∃ d, d = (c :: q)[j]'hjl := ⟨_, rfl⟩
              rw [show (b :: c :: q)[1 + j]'(by simp at hjl ⊢; omega) = d by rw [hd]; simp [Nat.add_comm 1 j]] at hxj
              have hd8 := d.toNat_lt
              have hc2 : ((1 + j : Nat) : Int) = 1 + (j : Int) := by omega
              rw [hc2] at hxj
              have HVN := Lib.hid (show val ((c :: q).take (j + 1)) = val ((c :: q).take j) * 256 + d.toNat by rw [List.take_succ_eq_append_getElem hjl, val_snoc, ← hd])
              clear HV hd
              obtain ⟨v, hv2⟩ : ∃ v, v = val ((c :: q).take j) := ⟨_, rfl⟩
              rw [← hv2] at h8 hv hbig HVN
              rw [← hv2]
              clear hv2
              generalize d.toNat = dn at *
              go_wp2_with fail
              go_roundw
              case rel => exact ⟨j + 1, by rw [HVN.out]; go_num, by go_num, by omega, by rw [HVN.out]; omega, trivial⟩
              case measure => simp [intOf]; omega
          · have h7 : ¬ (j : Int) < (k : Int) := by omega
            obtain rfl : j = k := by omega
            clear hjk HV
            have hk1 : 1 + (j : Int) = ((1 + j : Nat) : Int) := by omega
            have hsl : (t.size : Int) - 1 - (j : Int) = (((c :: q).drop j).length : Int) := by
              have := HL.out; rw [List.length_drop]; omega
            have hsl' := hsl
            rw [hsz] at hsl'
            have hdb : ((c :: q).drop j).length ≤ 100000 := by have := HL.out; rw [List.length_drop]; omega
            by_cases hn5 : 55 < val ((c :: q).take j)
            · have h8 : (55 : Int) < (val ((c :: q).take j) : Int) := by omega
              have HO2 := HO.out
              rw [if_pos hn5] at HO2
              by_cases hn6 : val ((c :: q).take j) ≤ ((c :: q).drop j).length
              · have h9 : (val ((c :: q).take j) : Int) ≤ (((c :: q).drop j).length : Int) := by omega
                have HN := Lib.hid (show SizeB (b :: c :: q) a O (.returned (.tuple #[.int .i64 (1 + (j : Int)), .int .i64 (val ((c :: q).take j) : Nat), .bool true])) from by
                  rw [HO2, tk_some hn6]
                  have h10 := HL.out
                  refine ⟨1 + j, by rw [List.length_take, Nat.min_eq_left hn6, hk1], ⟨fun h => by omega, fun h => absurd h h10.2.2.1⟩, by simp at h10 ⊢; omega, ?_, by omega⟩
                  rw [Nat.add_comm 1 j, List.take_append_drop]; rfl)
                clear hn5 hn6 hk1 HF HO2
                generalize ((c :: q).drop j).length = dl at *
                generalize val ((c :: q).take j) = v at *
                go_wp2_with fail
                exact bodyPost_ret (v := .tuple #[.int .i64 (1 + (j : Int)), .int .i64 (v : Nat), .bool true]) (by simp [results, Try.results55, go_sem]) rfl ⟨HN.out, rfl⟩
              · have h9 : ¬ (val ((c :: q).take j) : Int) ≤ (((c :: q).drop j).length : Int) := by omega
                have HN := Lib.hid (show SizeB (b :: c :: q) a O (.returned (.tuple #[.int .i64 (1 + (j : Int)), .int .i64 (val ((c :: q).take j) : Nat), .bool false])) from by
                  rw [HO2, tk_none hn6]
                  exact HF.out _ ⟨_, _, rfl⟩)
                clear hn5 hn6 hk1 HF HO2
                generalize ((c :: q).drop j).length = dl at *
                generalize val ((c :: q).take j) = v at *
                go_wp2_with fail
                exact bodyPost_ret (v := .tuple #[.int .i64 (1 + (j : Int)), .int .i64 (v : Nat), .bool false]) (by simp [results, Try.results55, go_sem]) rfl ⟨HN.out, rfl⟩
            · have h8 : ¬ (55 : Int) < (val ((c :: q).take j) : Int) := by omega
              have HN := Lib.hid (show SizeB (b :: c :: q) a O (.returned (.tuple #[.int .i64 (1 + (j : Int)), .int .i64 (val ((c :: q).take j) : Nat), .bool false])) from by
                rw [HO.out, if_neg hn5]
                exact HF.out _ ⟨_, _, rfl⟩)
              clear hn5 hk1 HF
              generalize val ((c :: q).take j) = v at *
              go_wp2_with fail
              exact bodyPost_ret (v := .tuple #[.int .i64 (1 + (j : Int)), .int .i64 (v : Nat), .bool false]) (by simp [results, Try.results55, go_sem]) rfl ⟨HN.out, rfl⟩
    · rw [if_neg hl]
      have h6 : ((str (b :: r)).size : Int) < 1 + (k : Int) := by omega
      have HF := Lib.hid (h77 _ ⟨0, 0, rfl⟩)
      clear h77 hl hk ha h55 hsz2
      generalize str (b :: r) = t at *
      generalize b.toNat = m at *
      go_enter Try.func55, Try.ntmps55
      go_wp2_with fail
      exact bodyPost_ret (v := .tuple #[.int .i64 0, .int .i64 0, .bool false]) (by simp [results, Try.results55, go_sem]) rfl ⟨HF.out, rfl⟩
end Go.Proofs.Ytgaaalacoeainaa
