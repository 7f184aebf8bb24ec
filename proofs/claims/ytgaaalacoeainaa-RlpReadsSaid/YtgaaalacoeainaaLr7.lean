/- RlpWrites: any item has the bytes and the text that the reference says. -/
import Derived.Test.YtgaaalacoeainaaLr6
namespace Go.Proofs.Ytgaaalacoeainaa
open Go.RowKit

/-- The number that a text is. -/
def smallR : It → Nat × Bool
  | .text s => if smallL s then (val s, true) else (0, false)
  | .list _ => (0, false)
theorem smallL_ne {s : List UInt8} (h8 : s.length ≤ 8) (h : smallL s = false) : ∃ r, s = 0 :: r := by
  rcases s with _ | ⟨b, r⟩
  · simp [smallL] at h
  · simp [smallL] at h
    have := h (by simpa using h8)
    exact ⟨r, by rw [this]⟩
theorem smallL_ok {s : List UInt8} (h : smallL s = true) : s.length ≤ 8 ∧ s.head? ≠ some 0 := by simpa [smallL] using h
theorem small_it (S : Nat → Prop) (x : It) (v : Value) (w : World) (hv : ItV S x v w) : Calls Try.prog 12 #[v] w fun e w' => e = .returned (.tuple #[.int .u64 ((smallR x).1 : Nat), .bool (smallR x).2]) ∧ Below w.heap.size w w' := by
  cases x with
  | list i => obtain ⟨u, rfl, _⟩ := hv; exact small_list_c _ _ w
  | text s =>
    obtain rfl : v = .agg #[.bool false, .string (str s), .slice none 0 0] := hv
    by_cases h : smallL s = true
    · rw [show smallR (.text s) = (val s, true) from if_pos h]
      exact small_ok_c s _ (smallL_ok h).1 (smallL_ok h).2 w
    · have h' : smallL s = false := by simpa using h
      rw [show smallR (.text s) = (0, false) from if_neg h]
      by_cases h8 : s.length ≤ 8
      · obtain ⟨r, rfl⟩ := smallL_ne h8 h'
        exact small_zero_c _ _ (by rw [str_size]; exact h8) (by rw [str_size]; simp) (by rw [str_get]; rfl) w
      · exact small_long_c _ _ (by rw [str_size]; omega) w
theorem rsmall_it (S : Nat → Prop) (x : It) (v : Value) (w : World) (hv : ItV S x v w) : Calls Try.prog 13 #[v] w fun e w' => e = .returned (.tuple #[.int .u64 ((smallR x).1 : Nat), .bool (smallR x).2]) ∧ Below w.heap.size w w' := by
  cases x with
  | list i => obtain ⟨u, rfl, _⟩ := hv; exact rsmall_list_c _ _ w
  | text s =>
    obtain rfl : v = .agg #[.bool false, .string (str s), .slice none 0 0] := hv
    by_cases h : smallL s = true
    · rw [show smallR (.text s) = (val s, true) from if_pos h]
      exact rsmall_ok_c s _ (smallL_ok h).1 (smallL_ok h).2 w
    · have h' : smallL s = false := by simpa using h
      rw [show smallR (.text s) = (0, false) from if_neg h]
      by_cases h8 : s.length ≤ 8
      · obtain ⟨r, rfl⟩ := smallL_ne h8 h'
        exact rsmall_zero_c _ _ (by rw [str_size]; exact h8) (by rw [str_size]; simp) (by rw [str_get]; rfl) w
      · exact rsmall_long_c _ _ (by rw [str_size]; omega) w
set_option maxRecDepth 100000 in
set_option maxHeartbeats 8000000 in
theorem writes_c {pa : Option Addr} {pc : Nat} {l : List (Nat × List UInt8)} {m : Nat} (hm : m < M64) (w : World) (hP : Parts w pa pc l) :
    Calls Try.prog 3 #[.slice pa l.length pc, .int .u64 m] w fun e w' => e = .returned (.bool true) ∧ Below w.heap.size w w' := by
  obtain ⟨l6, hl6⟩ : ∃ l6, l6 = l.take 60 := ⟨_, rfl⟩
  obtain ⟨n, hn⟩ : ∃ n, n = l.length := ⟨_, rfl⟩
  have hl60 : l6.length ≤ 60 := by rw [hl6, List.length_take]; omega
  obtain ⟨x, hx⟩ : ∃ x, x = (madeP 61 l6).1 := ⟨_, rfl⟩
  have henc : x.enc.length ≤ 18600 := by rw [hx]; exact madeP_enc 61 l6 hl60
  have hevs := x.evs_len
  have hsho := x.sho_len
  have HX := Lib.hid henc
  have HP := Lib.hid hP
  have HN := Lib.hid (And.intro hn (And.intro hl6 (And.intro hx hl60)))
  have HE := Lib.hid (fun (V : World) {v : Value} (hv : ItV (fun k => k < V.heap.size) x v V) => encode_c _ x v V (fun k hk => hk) hv (by omega) (by omega))
  have HRE := Lib.hid (fun (V : World) (v : Value) (hv : ItV (fun k => k < V.heap.size) x v V) => renc_c x (by omega) _ v V (fun k hk => hk) hv)
  have HS2 := Lib.hid (fun (V : World) {v : Value} (hv : ItV (fun k => k < V.heap.size) x v V) => show_c _ x v V (fun k hk => hk) hv (by omega) (by omega))
  have HRS := Lib.hid (fun (V : World) (v : Value) (hv : ItV (fun k => k < V.heap.size) x v V) => rshow_c x (by omega) _ v V (fun k hk => hk) hv)
  have HNu := Lib.hid (fun V => show Calls Try.prog 19 #[.int .u64 m] V fun e w' => e = .returned (.agg #[.bool false, .string (str (num m)), .slice none 0 0]) ∧ Below V.heap.size V w' from number_c m hm V)
  have HBy := Lib.hid (fun V => rbytes_c m hm V)
  have HSm := Lib.hid (fun S v V hv => small_it S x v V hv)
  have HRm := Lib.hid (fun S v V hv => rsmall_it S x v V hv)
  rw [← hn]
  clear hP hl60 henc hevs hsho hn hl6 hx hm
  generalize str x.enc = enc at *
  generalize str x.sho = sho at *
  generalize str (num m) = tm at *
  have hfi : ∀ V, (Instr.field 27 (.agg #[.bool false, .string tm, .slice none 0 0]) 1).run Try.prog V = .ok (.string tm) V := fun V => by kernel_rfl
  generalize (smallR x).1 = sn at *
  generalize (smallR x).2 = sb at *
  go_enter Try.func3, Try.ntmps3
  go_wp2_with fail
  go_at_call 10
  refine (examples_c _).mono ?_
  rintro e w1 ⟨rfl, h1⟩
  have K1 := Lib.hid ((Kn.start w).call h1)
  obtain ⟨a6, hsl, hp6⟩ := (HP.out.later h1).cut
  rw [← HN.out.1, ← HN.out.2.1] at hsl
  rw [← HN.out.2.1] at hp6
  have HM := Lib.hid (made_any hp6 HN.out.2.2.2)
  clear h1 hp6
  generalize l6.length = m6 at *
  go_wp2_with fail
  go_at_call 11
  refine HM.out.mono ?_
  rintro e w2 ⟨v, rfl, hv, hb⟩
  rw [← HN.out.2.2.1] at hv
  obtain ⟨b6, t6, i6, n6, c6, rfl⟩ := hv.form
  have K2 := Lib.hid ((K1.out.new hb hv (fun k hk => hk.2)).box #[.bool b6, .string t6, .slice i6 n6 c6])
  have hsz2 := alloc_size w2 (.cells #[.bool b6, .string t6, .slice i6 n6 c6] 27)
  clear K1 HM hb hv hsl
  go_wp2_with fail
  generalize w2.alloc (.cells #[.bool b6, .string t6, .slice i6 n6 c6] 27) = W2 at *
  generalize w2.heap.size = g6 at *
  clear hsz2
  go_at_call 12
  refine (HSm.out _ _ _ (K2.out.it (List.mem_singleton.2 rfl))).mono ?_
  rintro e w3 ⟨rfl, hb⟩
  have K3 := Lib.hid (K2.out.call hb)
  obtain ⟨q0, q1, q2⟩ := K3.out.cells (.head _)
  clear hb K2
  go_wp2_with fail
  go_at_call 14
  refine (ref_c x (by have := HX.out; omega) _ _ _ (fun k hk => hk) (K3.out.it (List.mem_singleton.2 rfl))).mono ?_
  rintro e w4 ⟨u4, rfl, hv, hb⟩
  have K4 := Lib.hid (K3.out.call hb)
  have HV4 := Lib.hid (hv.mono (T := fun k => k < w4.heap.size) (fun _ hk => hk.2))
  clear hb hv K3 q0 q1 q2
  go_wp2_with fail
  go_at_call 13
  refine (HRm.out _ _ _ HV4.out).mono ?_
  rintro e w5 ⟨rfl, hb⟩
  have K5 := Lib.hid ((K4.out.call hb).drew)
  clear hb K4 HV4
  go_wp2_with fail
  have H0 := K5.out
  have HS := Lib.hid (fun (V : World) (hV : Kn w [(g6, #[.bool b6, .string t6, .slice i6 n6 c6])] [(x, .agg #[.bool b6, .string t6, .slice i6 n6 c6])] V) => hV.cells (.head _))
  refine Drawn.start (fun V => Kn w [(g6, #[.bool b6, .string t6, .slice i6 n6 c6])] [(x, .agg #[.bool b6, .string t6, .slice i6 n6 c6])] V) (fun _ => false) (by kernel_rfl) ?_
  refine Drawn.take 0 (some 35) (v := ?_) rfl rfl (by kernel_rfl) (by kernel_rfl) (by kernel_rfl) (by kernel_rfl) (by kernel_rfl) rfl (fun _ _ _ h => h) (Or.inl ⟨rfl, ?_⟩) H0 ?_
  rotate_left
  · intro W hW; have hW := HS.out W hW; go_simp; try with_reducible rfl
  simp only [put_list, List.set]
  refine Drawn.take 1 (some 36) (v := ?_) rfl rfl (by kernel_rfl) (by kernel_rfl) (by kernel_rfl) (by kernel_rfl) (by kernel_rfl) rfl (fun _ _ _ h => h) (Or.inl ⟨rfl, ?_⟩) H0 ?_
  rotate_left
  · intro W hW; have hW := HS.out W hW; go_simp; try with_reducible rfl
  simp only [put_list, List.set]
  refine Drawn.take 2 (some 37) (v := ?_) rfl rfl (by kernel_rfl) (by kernel_rfl) (by kernel_rfl) (by kernel_rfl) (by kernel_rfl) rfl (fun _ _ _ h => h) (Or.inl ⟨rfl, ?_⟩) H0 ?_
  rotate_left
  · intro W hW; have hW := HS.out W hW; go_simp; try with_reducible rfl
  simp only [put_list, List.set]
  refine Drawn.take 4 (some 39) (v := ?_) rfl rfl (by kernel_rfl) (by kernel_rfl) (by kernel_rfl) (by kernel_rfl) (by kernel_rfl) rfl (fun _ _ _ h => h) (Or.inl ⟨rfl, ?_⟩) H0 ?_
  rotate_left
  · intro W hW; have hW := HS.out W hW; go_simp; try with_reducible rfl
  simp only [put_list, List.set]
  refine Drawn.only 3 (by kernel_rfl) rfl rfl (fun K hK => ?_)
  go_simp
  refine (HE.out _ (H0.it (.head _))).mono ?_
  rintro e w9 ⟨rfl, hb⟩
  refine hK _ _ (fun _ _ => H0.call hb) ?_
  replace H0 := H0.call hb
  clear hK K hb
  try simp only [put_list, List.set]
  refine Drawn.only 5 (by kernel_rfl) rfl rfl (fun K hK => ?_)
  go_simp
  refine (ref_c x (by have := HX.out; omega) _ _ _ (fun k hk => hk) (H0.it (.head _))).mono ?_
  rintro e w9 ⟨u5, rfl, hv, hb⟩
  refine hK _ _ (fun _ _ => H0.call hb) ?_
  replace H0 := H0.call hb
  clear hK K hb
  have HV5 := Lib.hid (hv.mono (fun _ hk => hk.2))
  clear hv
  try simp only [put_list, List.set]
  refine Drawn.only 6 (by kernel_rfl) rfl rfl (fun K hK => ?_)
  go_simp
  refine (HRE.out _ _ HV5.out).mono ?_
  rintro e w9 ⟨rfl, hb⟩
  refine hK _ _ (fun _ _ => H0.call hb) ?_
  replace H0 := H0.call hb
  clear hK K hb
  clear HV5
  try simp only [put_list, List.set]
  refine Drawn.take 7 (some 42) (v := ?_) rfl rfl (by kernel_rfl) (by kernel_rfl) (by kernel_rfl) (by kernel_rfl) (by kernel_rfl) rfl (fun _ _ _ h => h) (Or.inl ⟨rfl, ?_⟩) H0 ?_
  rotate_left
  · intro W hW; have hW := HS.out W hW; go_simp; try with_reducible rfl
  simp only [put_list, List.set]
  refine Drawn.take 8 (some 43) (v := ?_) rfl rfl (by kernel_rfl) (by kernel_rfl) (by kernel_rfl) (by kernel_rfl) (by kernel_rfl) rfl (fun _ _ _ h => h) (Or.inl ⟨rfl, ?_⟩) H0 ?_
  rotate_left
  · intro W hW; have hW := HS.out W hW; go_simp; try with_reducible rfl
  simp only [put_list, List.set]
  refine Drawn.take 9 (some 44) (v := ?_) rfl rfl (by kernel_rfl) (by kernel_rfl) (by kernel_rfl) (by kernel_rfl) (by kernel_rfl) rfl (fun _ _ _ h => h) (Or.inl ⟨rfl, ?_⟩) H0 ?_
  rotate_left
  · intro W hW; have hW := HS.out W hW; go_simp; try with_reducible rfl
  simp only [put_list, List.set]
  refine Drawn.take 10 (some 45) (v := ?_) rfl rfl (by kernel_rfl) (by kernel_rfl) (by kernel_rfl) (by kernel_rfl) (by kernel_rfl) rfl (fun _ _ _ h => h) (Or.inl ⟨rfl, ?_⟩) H0 ?_
  rotate_left
  · intro W hW; have hW := HS.out W hW; go_simp; try with_reducible rfl
  simp only [put_list, List.set]
  refine Drawn.take 12 (some 47) (v := ?_) rfl rfl (by kernel_rfl) (by kernel_rfl) (by kernel_rfl) (by kernel_rfl) (by kernel_rfl) rfl (fun _ _ _ h => h) (Or.inl ⟨rfl, ?_⟩) H0 ?_
  rotate_left
  · intro W hW; have hW := HS.out W hW; go_simp; try with_reducible rfl
  simp only [put_list, List.set]
  refine Drawn.only 11 (by kernel_rfl) rfl rfl (fun K hK => ?_)
  go_simp
  refine (HS2.out _ (H0.it (.head _))).mono ?_
  rintro e w9 ⟨rfl, hb⟩
  refine hK _ _ (fun _ _ => H0.call hb) ?_
  replace H0 := H0.call hb
  clear hK K hb
  try simp only [put_list, List.set]
  refine Drawn.only 13 (by kernel_rfl) rfl rfl (fun K hK => ?_)
  go_simp
  refine (ref_c x (by have := HX.out; omega) _ _ _ (fun k hk => hk) (H0.it (.head _))).mono ?_
  rintro e w9 ⟨u8, rfl, hv, hb⟩
  refine hK _ _ (fun _ _ => H0.call hb) ?_
  replace H0 := H0.call hb
  clear hK K hb
  have HV8 := Lib.hid (hv.mono (fun _ hk => hk.2))
  clear hv
  try simp only [put_list, List.set]
  refine Drawn.only 14 (by kernel_rfl) rfl rfl (fun K hK => ?_)
  go_simp
  refine (HRS.out _ _ HV8.out).mono ?_
  rintro e w9 ⟨rfl, hb⟩
  refine hK _ _ (fun _ _ => H0.call hb) ?_
  replace H0 := H0.call hb
  clear hK K hb
  clear HV8
  try simp only [put_list, List.set]
  refine Drawn.take 15 (some 50) (v := ?_) rfl rfl (by kernel_rfl) (by kernel_rfl) (by kernel_rfl) (by kernel_rfl) (by kernel_rfl) rfl (fun _ _ _ h => h) (Or.inl ⟨rfl, ?_⟩) H0 ?_
  rotate_left
  · intro W hW; have hW := HS.out W hW; go_simp; try with_reducible rfl
  simp only [put_list, List.set]
  refine Drawn.take 16 (some 51) (v := ?_) rfl rfl (by kernel_rfl) (by kernel_rfl) (by kernel_rfl) (by kernel_rfl) (by kernel_rfl) rfl (fun _ _ _ h => h) (Or.inl ⟨rfl, ?_⟩) H0 ?_
  rotate_left
  · intro W hW; have hW := HS.out W hW; go_simp; try with_reducible rfl
  simp only [put_list, List.set]
  refine Drawn.take 17 (some 52) (v := ?_) rfl rfl (by kernel_rfl) (by kernel_rfl) (by kernel_rfl) (by kernel_rfl) (by kernel_rfl) rfl (fun _ _ _ h => h) (Or.inl ⟨rfl, ?_⟩) H0 ?_
  rotate_left
  · intro W hW; have hW := HS.out W hW; go_simp; try with_reducible rfl
  simp only [put_list, List.set]
  refine Drawn.take 18 (some 53) (v := ?_) rfl rfl (by kernel_rfl) (by kernel_rfl) (by kernel_rfl) (by kernel_rfl) (by kernel_rfl) rfl (fun _ _ _ h => h) (Or.inl ⟨rfl, ?_⟩) H0 ?_
  rotate_left
  · intro W hW; have hW := HS.out W hW; go_simp; try with_reducible rfl
  simp only [put_list, List.set]
  refine Drawn.take 19 (some 54) (v := ?_) rfl rfl (by kernel_rfl) (by kernel_rfl) (by kernel_rfl) (by kernel_rfl) (by kernel_rfl) rfl (fun _ _ _ h => h) (Or.inl ⟨rfl, ?_⟩) H0 ?_
  rotate_left
  · intro W hW; have hW := HS.out W hW; go_simp; try with_reducible rfl
  simp only [put_list, List.set]
  refine Drawn.take 20 (some 55) (v := ?_) rfl rfl (by kernel_rfl) (by kernel_rfl) (by kernel_rfl) (by kernel_rfl) (by kernel_rfl) rfl (fun _ _ _ h => h) (Or.inl ⟨rfl, ?_⟩) H0 ?_
  rotate_left
  · intro W hW; have hW := HS.out W hW; go_simp; try with_reducible rfl
  simp only [put_list, List.set]
  refine Drawn.take 21 (some 56) (v := ?_) rfl rfl (by kernel_rfl) (by kernel_rfl) (by kernel_rfl) (by kernel_rfl) (by kernel_rfl) rfl (fun _ _ _ h => h) (Or.inl ⟨rfl, ?_⟩) H0 ?_
  rotate_left
  · intro W hW; have hW := HS.out W hW; go_simp; try with_reducible rfl
  simp only [put_list, List.set]
  refine Drawn.take 22 (some 57) (v := ?_) rfl rfl (by kernel_rfl) (by kernel_rfl) (by kernel_rfl) (by kernel_rfl) (by kernel_rfl) rfl (fun _ _ _ h => h) (Or.inl ⟨rfl, ?_⟩) H0 ?_
  rotate_left
  · intro W hW; have hW := HS.out W hW; go_simp; try with_reducible rfl
  simp only [put_list, List.set]
  refine Drawn.take 23 (some 58) (v := ?_) rfl rfl (by kernel_rfl) (by kernel_rfl) (by kernel_rfl) (by kernel_rfl) (by kernel_rfl) rfl (fun _ _ _ h => h) (Or.inl ⟨rfl, ?_⟩) H0 ?_
  rotate_left
  · intro W hW; have hW := HS.out W hW; go_simp; try with_reducible rfl
  simp only [put_list, List.set]
  refine Drawn.take 24 (some 59) (v := ?_) rfl rfl (by kernel_rfl) (by kernel_rfl) (by kernel_rfl) (by kernel_rfl) (by kernel_rfl) rfl (fun _ _ _ h => h) (Or.inl ⟨rfl, ?_⟩) H0 ?_
  rotate_left
  · intro W hW; have hW := HS.out W hW; go_simp; try with_reducible rfl
  simp only [put_list, List.set]
  refine Drawn.take 25 (some 60) (v := ?_) rfl rfl (by kernel_rfl) (by kernel_rfl) (by kernel_rfl) (by kernel_rfl) (by kernel_rfl) rfl (fun _ _ _ h => h) (Or.inl ⟨rfl, ?_⟩) H0 ?_
  rotate_left
  · intro W hW; have hW := HS.out W hW; go_simp; try with_reducible rfl
  simp only [put_list, List.set]
  refine Drawn.take 26 (some 61) (v := ?_) rfl rfl (by kernel_rfl) (by kernel_rfl) (by kernel_rfl) (by kernel_rfl) (by kernel_rfl) rfl (fun _ _ _ h => h) (Or.inl ⟨rfl, ?_⟩) H0 ?_
  rotate_left
  · intro W hW; have hW := HS.out W hW; go_simp; try with_reducible rfl
  simp only [put_list, List.set]
  refine Drawn.take 27 (some 62) (v := ?_) rfl rfl (by kernel_rfl) (by kernel_rfl) (by kernel_rfl) (by kernel_rfl) (by kernel_rfl) rfl (fun _ _ _ h => h) (Or.inl ⟨rfl, ?_⟩) H0 ?_
  rotate_left
  · intro W hW; have hW := HS.out W hW; go_simp; try with_reducible rfl
  simp only [put_list, List.set]
  refine Drawn.take 28 (some 63) (v := ?_) rfl rfl (by kernel_rfl) (by kernel_rfl) (by kernel_rfl) (by kernel_rfl) (by kernel_rfl) rfl (fun _ _ _ h => h) (Or.inl ⟨rfl, ?_⟩) H0 ?_
  rotate_left
  · intro W hW; have hW := HS.out W hW; go_simp; try with_reducible rfl
  simp only [put_list, List.set]
  refine Drawn.take 31 (some 66) (v := ?_) rfl rfl (by kernel_rfl) (by kernel_rfl) (by kernel_rfl) (by kernel_rfl) (by kernel_rfl) rfl (fun _ _ _ h => h) (Or.inl ⟨rfl, ?_⟩) H0 ?_
  rotate_left
  · intro W hW; have hW := HS.out W hW; go_simp; try with_reducible rfl
  simp only [put_list, List.set]
  refine Drawn.only 29 (by kernel_rfl) rfl rfl (fun K hK => ?_)
  go_simp
  refine (HNu.out _).mono ?_
  rintro e w9 ⟨rfl, hb⟩
  refine hK _ _ (fun _ _ => H0.call hb) ?_
  replace H0 := H0.call hb
  clear hK K hb
  try simp only [put_list, List.set]
  refine Drawn.take 30 (some 65) (v := ?_) rfl rfl (by kernel_rfl) (by kernel_rfl) (by kernel_rfl) (by kernel_rfl) (by kernel_rfl) rfl (fun _ _ _ h => h) (Or.inl ⟨rfl, ?_⟩) H0 ?_
  rotate_left
  · intro W hW; have hW := HS.out W hW; go_simp; try with_reducible rfl
  simp only [put_list, List.set]
  refine Drawn.only 32 (by kernel_rfl) rfl rfl (fun K hK => ?_)
  go_simp
  refine (HBy.out _).mono ?_
  rintro e w9 ⟨rfl, hb⟩
  refine hK _ _ (fun _ _ => H0.call hb) ?_
  replace H0 := H0.call hb
  clear hK K hb
  try simp only [put_list, List.set]
  refine Drawn.take 33 (some 68) (v := ?_) rfl rfl (by kernel_rfl) (by kernel_rfl) (by kernel_rfl) (by kernel_rfl) (by kernel_rfl) rfl (fun _ _ _ h => h) (Or.inl ⟨rfl, ?_⟩) H0 ?_
  rotate_left
  · intro W hW; have hW := HS.out W hW; go_simp; try with_reducible rfl
  simp only [put_list, List.set]
  refine Drawn.take 34 (some 69) (v := ?_) rfl rfl (by kernel_rfl) (by kernel_rfl) (by kernel_rfl) (by kernel_rfl) (by kernel_rfl) rfl (fun _ _ _ h => h) (Or.inl ⟨rfl, ?_⟩) H0 ?_
  rotate_left
  · intro W hW; have hW := HS.out W hW; go_simp; try with_reducible rfl
  simp only [put_list, List.set]
  refine Drawn.take 35 (some 4) (v := ?_) rfl rfl (by kernel_rfl) (by kernel_rfl) (by kernel_rfl) (by kernel_rfl) (by kernel_rfl) rfl (fun _ _ _ h => h) (Or.inl ⟨rfl, ?_⟩) H0 ?_
  rotate_left
  · intro W hW; have hW := HS.out W hW; go_simp; try with_reducible rfl
  simp only [put_list, List.set]
  refine Drawn.done (by kernel_rfl) ?_ _
  go_wp2_with fail
  go_ret
  exact ⟨rfl, H0.below⟩
end Go.Proofs.Ytgaaalacoeainaa
