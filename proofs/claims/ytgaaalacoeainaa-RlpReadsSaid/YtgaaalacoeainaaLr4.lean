/- The reference's Encode. -/
import Derived.Test.YtgaaalacoeainaaLr3
namespace Go.Proofs.Ytgaaalacoeainaa
open Go.RowKit

/-- A text's box stays. -/
def RBox (w : World) (t : ByteArray) (V : World) : Prop := Below w.heap.size w V ∧ V.heap[w.heap.size]? = some (.cells #[.bool false, .string t, .slice none 0 0] 35 (0, 0))
theorem rindex0 (c : UInt8) (r : List UInt8) (V : World) : (Instr.index 9 (.string (str (c :: r))) (.int .i64 0)).run Try.prog V = .ok (.int .u8 (c.toNat : Nat)) V := by
  rw [run_index_string V _ _ _ _ Try.underlying9, dif_pos ⟨by omega, by rw [str_size]; simp⟩]
  rw [str_get]; rfl
set_option maxRecDepth 100000 in
set_option maxHeartbeats 4000000 in
theorem renc_text (s : List UInt8) (hs : s.length ≤ 800000000) (w : World) : Calls Try.prog 16 #[.agg #[.bool false, .string (str s), .slice none 0 0]] w fun e w' => e = .returned (.string (str (encT s))) ∧ Below w.heap.size w w' := by
  have HB := Lib.hid (And.intro (bel_al w (.cells #[.bool false, .string (str s), .slice none 0 0] 35)) (heap_alloc_new w (.cells #[.bool false, .string (str s), .slice none 0 0] 35)))
  by_cases hb : bareL s = true
  · obtain ⟨c, rfl, hc⟩ : ∃ c, s = [c] ∧ c.toNat < 128 := by
      rcases s with _ | ⟨c, _ | ⟨d, r⟩⟩
      · cases hb
      · exact ⟨c, rfl, by simpa [bareL] using hb⟩
      · cases hb
    have he := Lib.hid (show str (encT [c]) = str [c] by simp [encT, hdT, hb])
    have hsz : ((str [c]).size : Int) = 1 := by rw [str_size]; rfl
    have hix := rindex0 c []
    have h1 : (c.toNat : Int) < 128 := by omega
    clear hc hs hb
    generalize str [c] = t at *
    go_enter Try.func16, Try.ntmps16
    go_wp2_with fail
    go_ret
    exact ⟨by rw [he.out]; rfl, HB.out.1⟩
  · have he := Lib.hid (show str (encT s) = str (hd 128 s.length) ++ str s by rw [str_append]; simp [encT, hdT, hb])
    have HC := Lib.hid (fun V => show Calls Try.prog 34 #[.int .i64 128, .int .i64 ((str s).size : Nat)] V fun e w' => e = .returned (.string (str (hd 128 s.length))) ∧ Below V.heap.size V w' from by
      rw [str_size]; exact rhead_c 128 s.length (Or.inl rfl) hs V)
    have hl := num_length_le (n := s.length) 8 (by simp; omega)
    have hsum : ¬ 9223372036854775807 < (str (hd 128 s.length)).size + (str s).size := by
      have := hd_len 128 s.length
      rw [str_size, str_size]; omega
    have hsz := str_size s
    clear hl
    by_cases h1 : s.length = 1
    · obtain ⟨c, rfl⟩ := List.length_eq_one_iff.1 h1
      have hs1 : ((str [c]).size : Int) = 1 := by rw [str_size]; rfl
      have hix := rindex0 c []
      have h2 : ¬ (c.toNat : Int) < 128 := by
        intro h; apply hb; simp [bareL]; omega
      clear hb h1 hs hsz
      generalize str (hd 128 [c].length) = th at *
      generalize str [c] = t at *
      go_enter Try.func16, Try.ntmps16
      go_wp2_with fail
      have H0 : RBox w t ((w.alloc (.cells #[.bool false, .string t, .slice none 0 0] 35)).drew) := ⟨HB.out.1.drew, HB.out.2⟩
      have HS := Lib.hid (fun (V : World) (hV : RBox w t V) => (cells3 hV.2).1)
      clear hix h2 hs1
      refine Drawn.start (RBox w t) (fun _ => false) (by kernel_rfl) ?_
      refine Drawn.take 0 (some 20) (v := ?_) rfl rfl (by kernel_rfl) (by kernel_rfl) (by kernel_rfl) (by kernel_rfl) (by kernel_rfl) rfl (fun _ _ _ h => h) (Or.inl ⟨rfl, ?_⟩) H0 ?_
      rotate_left
      · intro W hW; have hW := HS.out W hW; go_simp; try with_reducible rfl
      simp only [put_list, List.set]
      refine Drawn.take 1 (some 21) (v := ?_) rfl rfl (by kernel_rfl) (by kernel_rfl) (by kernel_rfl) (by kernel_rfl) (by kernel_rfl) rfl (fun _ _ _ h => h) (Or.inl ⟨rfl, ?_⟩) H0 ?_
      rotate_left
      · intro W hW; have hW := HS.out W hW; go_simp; try with_reducible rfl
      simp only [put_list, List.set]
      refine Drawn.take 2 (some 22) (v := ?_) rfl rfl (by kernel_rfl) (by kernel_rfl) (by kernel_rfl) (by kernel_rfl) (by kernel_rfl) rfl (fun _ _ _ h => h) (Or.inl ⟨rfl, ?_⟩) H0 ?_
      rotate_left
      · intro W hW; have hW := HS.out W hW; go_simp; try with_reducible rfl
      simp only [put_list, List.set]
      refine Drawn.take 4 (some 24) (v := ?_) rfl rfl (by kernel_rfl) (by kernel_rfl) (by kernel_rfl) (by kernel_rfl) (by kernel_rfl) rfl (fun _ _ _ h => h) (Or.inl ⟨rfl, ?_⟩) H0 ?_
      rotate_left
      · intro W hW; have hW := HS.out W hW; go_simp; try with_reducible rfl
      simp only [put_list, List.set]
      refine Drawn.take 5 (some 25) (v := ?_) rfl rfl (by kernel_rfl) (by kernel_rfl) (by kernel_rfl) (by kernel_rfl) (by kernel_rfl) rfl (fun _ _ _ h => h) (Or.inl ⟨rfl, ?_⟩) H0 ?_
      rotate_left
      · intro W hW; have hW := HS.out W hW; go_simp; try with_reducible rfl
      simp only [put_list, List.set]
      refine Drawn.only 3 (by kernel_rfl) rfl rfl (fun K hK => ?_)
      go_simp
      refine (HC.out _).mono ?_
      rintro e w9 ⟨rfl, hb9⟩
      have H1 : RBox w t w9 := ⟨H0.1.trans (hb9.mono H0.1.size), (hb9.block _ (lt_of H0.2)).trans H0.2⟩
      refine hK _ _ (fun _ _ => H1) ?_
      clear hK K HC H0 hb9 HB HS
      try simp only [put_list, List.set]
      refine Drawn.only 6 (by kernel_rfl) rfl rfl (fun K hK => ?_)
      go_simp
      refine hK _ _ (fun _ _ => H1) ?_
      clear hK K
      try simp only [put_list, List.set]
      refine Drawn.only 7 (by kernel_rfl) rfl rfl (fun K hK => ?_)
      go_simp
      refine hK _ _ (fun _ _ => H1) ?_
      clear hK K
      refine Drawn.done (by kernel_rfl) ?_ _
      have H2 := Lib.hid H1.1
      clear H1
      go_wp2_with fail
      go_ret
      exact ⟨by rw [he.out]; rfl, H2.out⟩
    · have hs1 : (((str s).size : Int) == 1) = false := by rw [beq_eq_false_iff_ne]; omega
      have hs2 : ¬ ((str s).size : Int) = 1 := by omega
      clear hb h1 hs hsz
      generalize str (hd 128 s.length) = th at *
      generalize str s = t at *
      go_enter Try.func16, Try.ntmps16
      go_wp2_with fail
      have H0 : RBox w t ((w.alloc (.cells #[.bool false, .string t, .slice none 0 0] 35)).drew) := ⟨HB.out.1.drew, HB.out.2⟩
      have HS := Lib.hid (fun (V : World) (hV : RBox w t V) => (cells3 hV.2).1)
      clear hs1 hs2
      refine Drawn.start (RBox w t) (fun _ => false) (by kernel_rfl) ?_
      refine Drawn.take 0 (some 20) (v := ?_) rfl rfl (by kernel_rfl) (by kernel_rfl) (by kernel_rfl) (by kernel_rfl) (by kernel_rfl) rfl (fun _ _ _ h => h) (Or.inl ⟨rfl, ?_⟩) H0 ?_
      rotate_left
      · intro W hW; have hW := HS.out W hW; go_simp; try with_reducible rfl
      simp only [put_list, List.set]
      refine Drawn.take 1 (some 21) (v := ?_) rfl rfl (by kernel_rfl) (by kernel_rfl) (by kernel_rfl) (by kernel_rfl) (by kernel_rfl) rfl (fun _ _ _ h => h) (Or.inl ⟨rfl, ?_⟩) H0 ?_
      rotate_left
      · intro W hW; have hW := HS.out W hW; go_simp; try with_reducible rfl
      simp only [put_list, List.set]
      refine Drawn.take 2 (some 22) (v := ?_) rfl rfl (by kernel_rfl) (by kernel_rfl) (by kernel_rfl) (by kernel_rfl) (by kernel_rfl) rfl (fun _ _ _ h => h) (Or.inl ⟨rfl, ?_⟩) H0 ?_
      rotate_left
      · intro W hW; have hW := HS.out W hW; go_simp; try with_reducible rfl
      simp only [put_list, List.set]
      refine Drawn.take 4 (some 24) (v := ?_) rfl rfl (by kernel_rfl) (by kernel_rfl) (by kernel_rfl) (by kernel_rfl) (by kernel_rfl) rfl (fun _ _ _ h => h) (Or.inl ⟨rfl, ?_⟩) H0 ?_
      rotate_left
      · intro W hW; have hW := HS.out W hW; go_simp; try with_reducible rfl
      simp only [put_list, List.set]
      refine Drawn.take 5 (some 25) (v := ?_) rfl rfl (by kernel_rfl) (by kernel_rfl) (by kernel_rfl) (by kernel_rfl) (by kernel_rfl) rfl (fun _ _ _ h => h) (Or.inl ⟨rfl, ?_⟩) H0 ?_
      rotate_left
      · intro W hW; have hW := HS.out W hW; go_simp; try with_reducible rfl
      simp only [put_list, List.set]
      refine Drawn.only 3 (by kernel_rfl) rfl rfl (fun K hK => ?_)
      go_simp
      refine (HC.out _).mono ?_
      rintro e w9 ⟨rfl, hb9⟩
      have H1 : RBox w t w9 := ⟨H0.1.trans (hb9.mono H0.1.size), (hb9.block _ (lt_of H0.2)).trans H0.2⟩
      refine hK _ _ (fun _ _ => H1) ?_
      clear hK K HC H0 hb9 HB HS
      try simp only [put_list, List.set]
      refine Drawn.only 6 (by kernel_rfl) rfl rfl (fun K hK => ?_)
      go_simp
      refine hK _ _ (fun _ _ => H1) ?_
      clear hK K
      try simp only [put_list, List.set]
      refine Drawn.only 7 (by kernel_rfl) rfl rfl (fun K hK => ?_)
      go_simp
      refine hK _ _ (fun _ _ => H1) ?_
      clear hK K
      refine Drawn.done (by kernel_rfl) ?_ _
      have H2 := Lib.hid H1.1
      clear H1
      go_wp2_with fail
      go_ret
      exact ⟨by rw [he.out]; rfl, H2.out⟩
/-- What is known of Encode for each item. -/
def REncC (x : It) : Prop := x.enc.length ≤ 100000 → ∀ (S : Nat → Prop) (v : Value) (w : World), (∀ k, S k → k < w.heap.size) → ItV S x v w → Calls Try.prog 16 #[v] w fun e w' => e = .returned (.string (str x.enc)) ∧ Below w.heap.size w w'
/-- What is known at the head of each round. -/
structure REncS (w : World) (a : Option Addr) (n c : Nat) (S : Nat → Prop) (f : Fo) (k : Nat) (s : List UInt8) (W : World) : Prop where
  below : Below w.heap.size w W
  box : W.heap[w.heap.size]? = some (.cells #[.bool true, .string ⟨#[]⟩, .slice a n c] 35 (0, 0))
  it : ∃ done rest : Fo, s = done.enc ∧ done.len = k ∧ f = done.app rest ∧ rest.All REncC ∧ (rest = .nil ∨ ∃ g o, a = some ⟨g, o, none⟩ ∧ S g ∧ rest.At S g (o + 3 * k) w)
set_option maxRecDepth 100000 in
set_option maxHeartbeats 8000000 in
theorem renc_go {a : Option Addr} {n c : Nat} {f : Fo} {S : Nat → Prop} (w : World) (hn : f.len = n) (hlen : f.enc.length ≤ 100000) (hA : f.All REncC) (hS : ∀ k, S k → k < w.heap.size)
    (hAt : f = .nil ∨ ∃ g o, a = some ⟨g, o, none⟩ ∧ S g ∧ f.At S g o w) :
    Calls Try.prog 16 #[.agg #[.bool true, .string ⟨#[]⟩, .slice a n c]] w fun e w' => e = .returned (.string (str (hd 192 f.enc.length ++ f.enc))) ∧ Below w.heap.size w w' := by
  have hn5 : n ≤ 100000 := by have := f.len_enc; omega
  have HO := Lib.hid (show REncS w a n c S f 0 [] (w.alloc (.cells #[.bool true, .string ⟨#[]⟩, .slice a n c] 35)) from
    ⟨bel_al w _, heap_alloc_new _ _, .nil, f, rfl, rfl, rfl, hA, by simpa using hAt⟩)
  have HN := Lib.hid (And.intro hn (And.intro hS hlen))
  clear hn hlen hA hS hAt
  go_enter Try.func16, Try.ntmps16
  go_wp2_with fail
  go_loopw [3, 4] (fun s i wr => ∃ (k : Nat) (l : List UInt8), s = .string (str l) ∧ i = .int .i64 k ∧ REncS w a n c S f k l wr) (fun _ i _ => n - (intOf i).toNat)
  case atStart => exact ⟨0, [], rfl, rfl, HO.out⟩
  case round =>
    clear HO
    obtain ⟨k, l, rfl, rfl, hR⟩ := hrel
    obtain ⟨done, rest, rfl, hO3, hO4, hO5, hO7⟩ := hR.it
    obtain ⟨⟨b0, b1, b2⟩, _⟩ := cells3 hR.box
    rcases rest.cases_it with rfl | ⟨x, r, rfl⟩
    · have hkn : ¬ (k : Int) < (n : Int) := by
        have := HN.out.1
        rw [hO4, Fo.len_app, hO3, show Fo.len .nil = 0 from rfl] at this
        omega
      rw [Fo.app_nil] at hO4
      subst hO4
      have hnl := num_length_le (n := f.enc.length) 8 (by have := HN.out.2.2; simp; omega)
      have hsum : ¬ 9223372036854775807 < (str (hd 192 f.enc.length)).size + (str f.enc).size := by
        have := hd_len 192 f.enc.length
        have := HN.out.2.2
        rw [str_size, str_size]; omega
      have he := Lib.hid (str_append (hd 192 f.enc.length) f.enc)
      have HC := Lib.hid (fun V => show Calls Try.prog 34 #[.int .i64 192, .int .i64 ((str f.enc).size : Nat)] V fun e w' => e = .returned (.string (str (hd 192 f.enc.length))) ∧ Below V.heap.size V w' from by
        rw [str_size]; exact rhead_c 192 _ (Or.inr rfl) (by have := HN.out.2.2; omega) V)
      have HB := Lib.hid hR.below
      clear hR hO3 hO5 hO7 hnl
      generalize str (hd 192 f.enc.length) = th at *
      generalize str f.enc = t at *
      go_wp2_with fail
      go_at_call 34
      refine (HC.out _).mono ?_
      rintro e w1 ⟨rfl, hb⟩
      have HB1 := Lib.hid (HB.out.trans (hb.mono HB.out.size))
      clear hb HB HC
      go_wp2_with fail
      go_ret
      exact ⟨by rw [← he.out]; rfl, HB1.out⟩
    · have hkl : k < n := by
        have := HN.out.1
        rw [hO4, Fo.len_app, hO3, fo_len] at this
        omega
      obtain ⟨g, o, rfl, hg, hat⟩ : ∃ g o, a = some ⟨g, o, none⟩ ∧ S g ∧ (x.fo r).At S g (o + 3 * k) w := by
        rcases hO7 with h | h
        · cases x <;> cases h
        · exact h
      obtain ⟨e0, e1, e2, e3, e4, f0, f1, f2, hx, hr⟩ := At_cons hat
      rw [show o + 3 * k = o + k * 3 by omega] at f0 f1 f2
      obtain ⟨hP, hrA⟩ := Fo.all_cons hO5
      have hfl : done.enc.length + (x.enc.length + r.enc.length) ≤ 100000 := by
        have := HN.out.2.2
        rw [hO4, Fo.enc_app, fo_enc, List.length_append, List.length_append] at this
        exact this
      have hb := hR.below
      have f0' := (World.cell?_of_block (hb.block g (HN.out.2.1 g hg))).trans f0
      have f1' := (World.cell?_of_block (hb.block g (HN.out.2.1 g hg))).trans f1
      have f2' := (World.cell?_of_block (hb.block g (HN.out.2.1 g hg))).trans f2
      have HC := Lib.hid (hP (by omega) S _ wr (fun i hi => Nat.lt_of_lt_of_le (HN.out.2.1 i hi) hb.size) (hx.kept (W' := wr) (fun i hi => hb.block i (HN.out.2.1 i hi))))
      have hki : (k : Int) < (n : Int) := by omega
      have hki0 : (0 : Int) ≤ (k : Int) ∧ (k : Int) < (n : Int) := by omega
      have hw : IntKind.i64.wrap ((k : Int) + 1) = (k : Int) + 1 := IntWalk.i64_in _ (by omega)
      have hsum : ¬ 9223372036854775807 < (str done.enc).size + (str x.enc).size := by rw [str_size, str_size]; omega
      have he := str_append done.enc x.enc
      have HQ := Lib.hid (show ∀ w1, Below wr.heap.size wr w1 → REncS w (some ⟨g, o, none⟩) n c S f (k + 1) (done.enc ++ x.enc) w1 from fun w1 hb1 =>
        ⟨hb.trans (hb1.mono hb.size), (hb1.block _ (lt_of hR.box)).trans hR.box, done.app (x.fo .nil), r, by rw [Fo.enc_app, It.enc_fo'], by rw [Fo.len_app, show (x.fo .nil).len = 1 by cases x <;> rfl, hO3], by rw [hO4, fo_app x r, Fo.app_assoc], hrA,
          Or.inr ⟨g, o, rfl, hg, by rw [show o + 3 * (k + 1) = o + 3 * k + 3 by omega]; exact hr⟩⟩)
      clear hR hO3 hO4 hO5 hO7 hP hrA hx hr hat f0 f1 f2 hfl hb
      generalize done.enc ++ x.enc = de at *
      generalize str done.enc = td at *
      generalize str x.enc = tx at *
      go_wp2_with fail
      go_at_call 16
      refine HC.out.mono ?_
      rintro e w1 ⟨rfl, hb⟩
      have HQ1 := Lib.hid (HQ.out _ hb)
      clear hb HQ HC f0' f1' f2' b0 b1 b2
      go_wp2_with fail
      go_roundw
      case rel => exact ⟨k + 1, de, rfl, by go_num, HQ1.out⟩
      case measure => simp [intOf]; omega
/-- What the reference's Encode does. -/
theorem renc_c (x : It) : REncC x := by
  refine It.all_of (P := REncC) (fun s hl S v w hS hv => ?_) (fun i hi hl S v w hS hv => ?_) x
  · obtain rfl : v = .agg #[.bool false, .string (str s), .slice none 0 0] := hv
    exact renc_text s (by have : s.length ≤ (encT s).length := by simp [encT]
                          have h2 : (encT s).length ≤ 100000 := hl
                          omega) w
  · obtain ⟨u, rfl, hu⟩ := hv
    have hil : i.enc.length ≤ 100000 := by simp [It.enc] at hl; omega
    rcases hu with ⟨rfl, rfl⟩ | ⟨g, o, c, rfl, hg, hc, ha⟩
    · exact renc_go (f := .nil) (S := S) w rfl (by simp [Fo.enc]) trivial hS (Or.inl rfl)
    · exact renc_go (f := i) (S := S) w rfl hil hi hS (Or.inr ⟨g, o, rfl, hg, ha⟩)
end Go.Proofs.Ytgaaalacoeainaa
