/- What any bytes are decoded to is encoded as they stood. -/
import Derived.Test.YtlgmdfeajmafoaaLy
namespace Go.Proofs.Ytlgmdfeajmafoaa
open Go.RowKit

set_option maxRecDepth 100000 in
set_option maxHeartbeats 4000000 in
theorem again_c (s : List UInt8) (w : World) : Calls Try.prog 6 #[.string (str s)] w fun e w' => e = .returned (.bool true) ∧ Below w.heap.size w w' := by
  go_enter Try.func6, Try.ntmps6
  go_wp2_with fail
  go_at_call 10
  refine (examples_c _).mono ?_
  rintro e W1 ⟨rfl, hb⟩
  have B1 := Lib.hid hb
  clear hb
  go_wp2_with fail
  go_at_call 21
  refine (decode_c s _).mono ?_
  rintro e W2 ⟨hb, h⟩
  have B2 := Lib.hid (bel_then (bel_then B1.out hb) (bel_al W2 (.cells #[.bool false, .string ⟨#[]⟩, .slice none 0 0] 27)))
  have hnone : ∀ z : Int, (e = .returned (.tuple #[zeroV, .int .i64 z]) ∧ z ≠ 0) → e = .returned (.tuple #[.agg #[.bool false, .string ⟨#[]⟩, .slice none 0 0], .int .i64 z]) := fun z h => h.1
  by_cases hl : 65536 < s.length
  · rw [if_pos hl] at h
    rw [h]
    unfold zeroV
    clear hnone h hb hl
    go_wp2_with fail
    go_ret

    exact ⟨rfl, B2.out⟩
  · rw [if_neg hl] at h
    cases hd : decP s with
    | none =>
      rw [hd] at h
      simp only at h
      rw [h]
      unfold zeroV
      clear hnone h hb hl hd
      go_wp2_with fail
      go_ret
      exact ⟨rfl, B2.out⟩
    | some f =>
      rw [hd] at h
      obtain ⟨x, v, hf, rfl, hv⟩ := h
      have hs := decP_enc hd
      rw [hf, It.enc_fo'] at hs
      subst hs
      have hev := x.evs_len
      obtain ⟨b, t, a, n, c, rfl⟩ := hv.form
      have HE := Lib.hid (encode_c _ x _ (W2.alloc (.cells #[.bool b, .string t, .slice a n c] 27)) (fun k hk => Nat.lt_of_lt_of_le hk.2 (bel_al W2 _).size) (hv.kept fun k hk => (bel_al W2 _).block k hk.2) (by omega) (by omega))
      have B3 := Lib.hid (bel_then (bel_then B1.out hb) (bel_al W2 (.cells #[.bool b, .string t, .slice a n c] 27)))
      have hq : ((str x.enc).toList == (str x.enc).toList) = true := by simp
      clear hnone hb hl hd hf hev hv B2 B1
      go_wp2_with fail
      go_at_call 15
      refine HE.out.mono ?_
      rintro e W3 ⟨rfl, hb⟩
      have B4 := Lib.hid (bel_then B3.out hb)
      clear hb B3 HE
      go_wp2_with fail
      go_ret
      exact ⟨rfl, B4.out⟩
end Go.Proofs.Ytlgmdfeajmafoaa
