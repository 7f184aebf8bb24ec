/- RlpBack: what was encoded is decoded; with a byte behind it, or cut, it is none. -/
import Derived.Test.YtgaaalacoeainaaLt6
namespace Go.Proofs.Ytgaaalacoeainaa
open Go.RowKit

set_option maxRecDepth 100000 in
set_option maxHeartbeats 8000000 in
theorem back_c {pa : Option Addr} {pc : Nat} {l : List (Nat × List UInt8)} {cut : Nat} (hcut : cut < 65536) (w : World) (hP : Parts w pa pc l) :
    Calls Try.prog 5 #[.slice pa l.length pc, .int .u16 cut] w fun e w' => e = .returned (.bool true) ∧ Below w.heap.size w w' := by
  obtain ⟨l6, hl6⟩ : ∃ l6, l6 = l.take 60 := ⟨_, rfl⟩
  obtain ⟨n, hn⟩ : ∃ n, n = l.length := ⟨_, rfl⟩
  have hl60 : l6.length ≤ 60 := by rw [hl6, List.length_take]; omega
  obtain ⟨x, hx⟩ : ∃ x, x = (madeP 61 l6).1 := ⟨_, rfl⟩
  have hdep : x.dep ≤ 62 := by rw [hx]; exact madeP_dep 61 l6
  have henc : x.enc.length ≤ 18600 := by rw [hx]; exact madeP_enc 61 l6 hl60
  have hpos := x.enc_pos
  have hevs := x.evs_len
  have hsho := x.sho_len
  have hM : x.enc.length < M64 := by unfold M64; omega
  have HX := Lib.hid (And.intro hdep (And.intro henc (And.intro hpos (And.intro hevs (And.intro hsho hM)))))
  have HP := Lib.hid hP
  have HN := Lib.hid (And.intro hn (And.intro hl6 (And.intro hx hl60)))
  rw [← hn]
  clear hP hl60 hdep henc hpos hevs hsho hM hn hl6 hx
  have hwc : IntKind.i64.wrap (cut : Int) = (cut : Int) := IntWalk.i64_in _ (by omega)
  go_enter Try.func5, Try.ntmps5
  go_wp2_with fail
  go_at_call 10
  refine (examples_c _).mono ?_
  rintro e w1 ⟨rfl, h1⟩
  have K1 := Lib.hid ((Kn.start w).call h1)
  obtain ⟨a6, hsl, hp6⟩ := (HP.out.later h1).cut
  rw [← HN.out.1, ← HN.out.2.1] at hsl
  rw [← HN.out.2.1] at hp6
  have HM := Lib.hid (made_any hp6 HN.out.2.2.2)
  clear h1 hp6
  generalize l6.length = m6 at *
  go_wp2_with fail
  go_at_call 11
  refine HM.out.mono ?_
  rintro e w2 ⟨v, rfl, hv, hb⟩
  rw [← HN.out.2.2.1] at hv
  obtain ⟨b6, t6, i6, n6, c6, rfl⟩ := hv.form
  have K2 := Lib.hid ((K1.out.new hb hv (fun k hk => hk.2)).box #[.bool b6, .string t6, .slice i6 n6 c6])
  have hsz2 := alloc_size w2 (.cells #[.bool b6, .string t6, .slice i6 n6 c6] 27)
  clear K1 HM hb hv hsl
  go_wp2_with fail
  generalize w2.alloc (.cells #[.bool b6, .string t6, .slice i6 n6 c6] 27) = W2 at *
  generalize w2.heap.size = g6 at *
  clear hsz2
  go_at_call 15
  refine (encode_c _ x _ _ (fun k hk => hk) (K2.out.it (List.mem_singleton.2 rfl)) (by have := HX.out; omega) (by have := HX.out; omega)).mono ?_
  rintro e w3 ⟨rfl, hb⟩
  have K3 := Lib.hid (K2.out.call hb)
  clear hb K2
  go_wp2_with fail
  go_at_call 21
  refine (decode_c x.enc _).mono ?_
  rintro e w4 ⟨hb, h⟩
  rw [if_neg (by have := HX.out; omega), decP_it _ HX.out.2.2.2.2.2, if_pos (by have := HX.out; omega)] at h
  obtain ⟨x', v9, hx', rfl, hv9⟩ := h
  obtain rfl : x' = x := by
    cases x' <;> cases x <;> simp [It.fo] at hx' <;> simp [hx']
  obtain ⟨b9, t9, i9, n9, c9, rfl⟩ := hv9.form
  have K4 := Lib.hid ((K3.out.new hb hv9 (fun k hk => hk.2)).box #[.bool b9, .string t9, .slice i9 n9 c9])
  clear hb hv9 hx' K3
  have hsz : (str x'.enc).size = x'.enc.length := str_size _
  have hi1 : (((str x'.enc).size : Int) == 0) = false := by rw [beq_eq_false_iff_ne, hsz]; have := HX.out; omega
  have hi2 : ¬ (60000 : Int) < ((str x'.enc).size : Int) := by rw [hsz]; have := HX.out; omega
  have hi3 : ¬ ((str x'.enc).size : Int) = 0 := by rw [hsz]; have := HX.out; omega
  obtain ⟨k, hk⟩ : ∃ k, k = cut % x'.enc.length := ⟨_, rfl⟩
  have hkl : k < x'.enc.length := by rw [hk]; exact Nat.mod_lt _ HX.out.2.2.1
  have hrem : (cut : Int) % ((str x'.enc).size : Int) = (k : Int) := by rw [hsz, hk]; simp
  have hs1 : str x'.enc ++ (⟨#[1]⟩ : ByteArray) = str (x'.enc ++ [1]) := str_lit1 _ _
  have hcs : ∀ V, (Instr.slice 9 (.string (str x'.enc)) none (some (.int .i64 (k : Int))) none).run Try.prog V = .ok (.string (str (x'.enc.take k))) V := fun V => by
    rw [run_slice_string_h V _ _ Try.underlying9 .i64 _ (by omega) (by omega), Int.toNat_natCast, str_take]
  have HK := Lib.hid (And.intro hkl hsz)
  clear hk hkl hsz
  go_wp2_with fail
  go_at_call 21
  refine (decode_c (x'.enc ++ [1]) _).mono ?_
  rintro e w5 ⟨hb, h⟩
  rw [if_neg (by have := HX.out; rw [List.length_append, List.length_singleton]; omega), decP_more x' HX.out.2.2.2.2.2 1 []] at h
  change e = .returned (.tuple #[zeroV, .int .i64 2]) at h
  unfold zeroV at h
  subst h
  have K5 := Lib.hid ((K4.out.call hb).box #[.bool false, .string ⟨#[]⟩, .slice none 0 0])
  clear hb K4
  go_wp2_with fail
  generalize w5.alloc (.cells #[.bool false, .string ⟨#[]⟩, .slice none 0 0] 27) = W5 at *
  generalize w5.heap.size = g11 at *
  generalize w4.heap.size = g9 at *
  go_at_call 21
  refine (decode_c (x'.enc.take k) _).mono ?_
  rintro e w6 ⟨hb, h⟩
  rw [if_neg (by have := HX.out; rw [List.length_take]; omega), decP_cut x' HX.out.2.2.2.2.2 k HK.out.1] at h
  change e = .returned (.tuple #[zeroV, .int .i64 2]) at h
  unfold zeroV at h
  subst h
  have K6 := Lib.hid (((K5.out.call hb).box #[.bool false, .string ⟨#[]⟩, .slice none 0 0]).drew)
  clear hb K5 hs1 hcs hrem
  have HV := Lib.hid (show x'.evs.length < 900000 ∧ x'.sho.length ≤ 90000000 from by have := HX.out; omega)
  clear hi1 hi2 hi3 HX HK HN HP
  generalize x'.enc = enc at *
  go_wp2_with fail
  have H0 := K6.out
  have HS := Lib.hid (fun (V : World) (hV : Kn w [(w6.heap.size, #[.bool false, .string ⟨#[]⟩, .slice none 0 0]), (g11, #[.bool false, .string ⟨#[]⟩, .slice none 0 0]), (g9, #[.bool b9, .string t9, .slice i9 n9 c9]), (g6, #[.bool b6, .string t6, .slice i6 n6 c6])] [(x', .agg #[.bool b9, .string t9, .slice i9 n9 c9]), (x', .agg #[.bool b6, .string t6, .slice i6 n6 c6])] V) =>
    And.intro (hV.cells (.tail _ (.tail _ (.head _)))) (hV.cells (.tail _ (.tail _ (.tail _ (.head _))))))
  refine Drawn.start (fun V => Kn w [(w6.heap.size, #[.bool false, .string ⟨#[]⟩, .slice none 0 0]), (g11, #[.bool false, .string ⟨#[]⟩, .slice none 0 0]), (g9, #[.bool b9, .string t9, .slice i9 n9 c9]), (g6, #[.bool b6, .string t6, .slice i6 n6 c6])] [(x', .agg #[.bool b9, .string t9, .slice i9 n9 c9]), (x', .agg #[.bool b6, .string t6, .slice i6 n6 c6])] V) (fun _ => false) (by kernel_rfl) ?_
  refine Drawn.take 0 (some 62) (v := ?_) rfl rfl (by kernel_rfl) (by kernel_rfl) (by kernel_rfl) (by kernel_rfl) (by kernel_rfl) rfl (fun _ _ _ h => h) (Or.inl ⟨rfl, ?_⟩) H0 ?_
  rotate_left
  · intro W hW; have hW := HS.out W hW; go_simp; try with_reducible rfl
  simp only [put_list, List.set]
  refine Drawn.take 1 (some 63) (v := ?_) rfl rfl (by kernel_rfl) (by kernel_rfl) (by kernel_rfl) (by kernel_rfl) (by kernel_rfl) rfl (fun _ _ _ h => h) (Or.inl ⟨rfl, ?_⟩) H0 ?_
  rotate_left
  · intro W hW; have hW := HS.out W hW; go_simp; try with_reducible rfl
  simp only [put_list, List.set]
  refine Drawn.take 2 (some 64) (v := ?_) rfl rfl (by kernel_rfl) (by kernel_rfl) (by kernel_rfl) (by kernel_rfl) (by kernel_rfl) rfl (fun _ _ _ h => h) (Or.inl ⟨rfl, ?_⟩) H0 ?_
  rotate_left
  · intro W hW; have hW := HS.out W hW; go_simp; try with_reducible rfl
  simp only [put_list, List.set]
  refine Drawn.take 3 (some 65) (v := ?_) rfl rfl (by kernel_rfl) (by kernel_rfl) (by kernel_rfl) (by kernel_rfl) (by kernel_rfl) rfl (fun _ _ _ h => h) (Or.inl ⟨rfl, ?_⟩) H0 ?_
  rotate_left
  · intro W hW; have hW := HS.out W hW; go_simp; try with_reducible rfl
  simp only [put_list, List.set]
  refine Drawn.take 4 (some 66) (v := ?_) rfl rfl (by kernel_rfl) (by kernel_rfl) (by kernel_rfl) (by kernel_rfl) (by kernel_rfl) rfl (fun _ _ _ h => h) (Or.inl ⟨rfl, ?_⟩) H0 ?_
  rotate_left
  · intro W hW; have hW := HS.out W hW; go_simp; try with_reducible rfl
  simp only [put_list, List.set]
  refine Drawn.take 5 (some 67) (v := ?_) rfl rfl (by kernel_rfl) (by kernel_rfl) (by kernel_rfl) (by kernel_rfl) (by kernel_rfl) rfl (fun _ _ _ h => h) (Or.inl ⟨rfl, ?_⟩) H0 ?_
  rotate_left
  · intro W hW; have hW := HS.out W hW; go_simp; try with_reducible rfl
  simp only [put_list, List.set]
  refine Drawn.take 6 (some 68) (v := ?_) rfl rfl (by kernel_rfl) (by kernel_rfl) (by kernel_rfl) (by kernel_rfl) (by kernel_rfl) rfl (fun _ _ _ h => h) (Or.inl ⟨rfl, ?_⟩) H0 ?_
  rotate_left
  · intro W hW; have hW := HS.out W hW; go_simp; try with_reducible rfl
  simp only [put_list, List.set]
  refine Drawn.take 8 (some 70) (v := ?_) rfl rfl (by kernel_rfl) (by kernel_rfl) (by kernel_rfl) (by kernel_rfl) (by kernel_rfl) rfl (fun _ _ _ h => h) (Or.inl ⟨rfl, ?_⟩) H0 ?_
  rotate_left
  · intro W hW; have hW := HS.out W hW; go_simp; try with_reducible rfl
  simp only [put_list, List.set]
  refine Drawn.only 7 (by kernel_rfl) rfl rfl (fun K hK => ?_)
  go_simp
  refine (show_c _ x' _ _ (fun k hk => hk) (H0.it (.head _)) HV.out.1 HV.out.2).mono ?_
  rintro e w9 ⟨rfl, hb⟩
  refine hK _ _ (fun _ _ => H0.call hb) ?_
  replace H0 := H0.call hb
  clear hK K hb
  try simp only [put_list, List.set]
  refine Drawn.only 9 (by kernel_rfl) rfl rfl (fun K hK => ?_)
  go_simp
  refine (show_c _ x' _ _ (fun k hk => hk) (H0.it (.tail _ (.head _))) HV.out.1 HV.out.2).mono ?_
  rintro e w9 ⟨rfl, hb⟩
  refine hK _ _ (fun _ _ => H0.call hb) ?_
  replace H0 := H0.call hb
  clear hK K hb
  try simp only [put_list, List.set]
  refine Drawn.take 10 (some 72) (v := ?_) rfl rfl (by kernel_rfl) (by kernel_rfl) (by kernel_rfl) (by kernel_rfl) (by kernel_rfl) rfl (fun _ _ _ h => h) (Or.inl ⟨rfl, ?_⟩) H0 ?_
  rotate_left
  · intro W hW; have hW := HS.out W hW; go_simp; try with_reducible rfl
  simp only [put_list, List.set]
  refine Drawn.take 11 (some 73) (v := ?_) rfl rfl (by kernel_rfl) (by kernel_rfl) (by kernel_rfl) (by kernel_rfl) (by kernel_rfl) rfl (fun _ _ _ h => h) (Or.inl ⟨rfl, ?_⟩) H0 ?_
  rotate_left
  · intro W hW; have hW := HS.out W hW; go_simp; try with_reducible rfl
  simp only [put_list, List.set]
  refine Drawn.take 12 (some 74) (v := ?_) rfl rfl (by kernel_rfl) (by kernel_rfl) (by kernel_rfl) (by kernel_rfl) (by kernel_rfl) rfl (fun _ _ _ h => h) (Or.inl ⟨rfl, ?_⟩) H0 ?_
  rotate_left
  · intro W hW; have hW := HS.out W hW; go_simp; try with_reducible rfl
  simp only [put_list, List.set]
  refine Drawn.take 13 (some 75) (v := ?_) rfl rfl (by kernel_rfl) (by kernel_rfl) (by kernel_rfl) (by kernel_rfl) (by kernel_rfl) rfl (fun _ _ _ h => h) (Or.inl ⟨rfl, ?_⟩) H0 ?_
  rotate_left
  · intro W hW; have hW := HS.out W hW; go_simp; try with_reducible rfl
  simp only [put_list, List.set]
  refine Drawn.take 14 (some 76) (v := ?_) rfl rfl (by kernel_rfl) (by kernel_rfl) (by kernel_rfl) (by kernel_rfl) (by kernel_rfl) rfl (fun _ _ _ h => h) (Or.inl ⟨rfl, ?_⟩) H0 ?_
  rotate_left
  · intro W hW; have hW := HS.out W hW; go_simp; try with_reducible rfl
  simp only [put_list, List.set]
  refine Drawn.take 15 (some 77) (v := ?_) rfl rfl (by kernel_rfl) (by kernel_rfl) (by kernel_rfl) (by kernel_rfl) (by kernel_rfl) rfl (fun _ _ _ h => h) (Or.inl ⟨rfl, ?_⟩) H0 ?_
  rotate_left
  · intro W hW; have hW := HS.out W hW; go_simp; try with_reducible rfl
  simp only [put_list, List.set]
  refine Drawn.take 16 (some 78) (v := ?_) rfl rfl (by kernel_rfl) (by kernel_rfl) (by kernel_rfl) (by kernel_rfl) (by kernel_rfl) rfl (fun _ _ _ h => h) (Or.inl ⟨rfl, ?_⟩) H0 ?_
  rotate_left
  · intro W hW; have hW := HS.out W hW; go_simp; try with_reducible rfl
  simp only [put_list, List.set]
  refine Drawn.take 17 (some 79) (v := ?_) rfl rfl (by kernel_rfl) (by kernel_rfl) (by kernel_rfl) (by kernel_rfl) (by kernel_rfl) rfl (fun _ _ _ h => h) (Or.inl ⟨rfl, ?_⟩) H0 ?_
  rotate_left
  · intro W hW; have hW := HS.out W hW; go_simp; try with_reducible rfl
  simp only [put_list, List.set]
  refine Drawn.take 18 (some 80) (v := ?_) rfl rfl (by kernel_rfl) (by kernel_rfl) (by kernel_rfl) (by kernel_rfl) (by kernel_rfl) rfl (fun _ _ _ h => h) (Or.inl ⟨rfl, ?_⟩) H0 ?_
  rotate_left
  · intro W hW; have hW := HS.out W hW; go_simp; try with_reducible rfl
  simp only [put_list, List.set]
  refine Drawn.take 19 (some 81) (v := ?_) rfl rfl (by kernel_rfl) (by kernel_rfl) (by kernel_rfl) (by kernel_rfl) (by kernel_rfl) rfl (fun _ _ _ h => h) (Or.inl ⟨rfl, ?_⟩) H0 ?_
  rotate_left
  · intro W hW; have hW := HS.out W hW; go_simp; try with_reducible rfl
  simp only [put_list, List.set]
  refine Drawn.take 20 (some 4) (v := ?_) rfl rfl (by kernel_rfl) (by kernel_rfl) (by kernel_rfl) (by kernel_rfl) (by kernel_rfl) rfl (fun _ _ _ h => h) (Or.inl ⟨rfl, ?_⟩) H0 ?_
  rotate_left
  · intro W hW; have hW := HS.out W hW; go_simp; try with_reducible rfl
  simp only [put_list, List.set]
  refine Drawn.done (by kernel_rfl) ?_ _
  go_wp2_with fail
  go_ret
  exact ⟨rfl, H0.below⟩
end Go.Proofs.Ytgaaalacoeainaa
