/- The disk's calls, in each of their ways: dead, in the step of the crash, whole; a name that is free. -/
import Derived.Test.YtialfpkmcafkmaaGreatQs
import Derived.Test.YtialfpkmcafkmaaGreatDkl
namespace Go.Proofs.YtialfpkmcafkmaaGreat
open Go.RowKit Go.Maps Go.WideElems Go.ChangeMaps Go.MapKept Go.WideMaps
section
variable {x : Dk} {W : World} {s xs : Nm} {b0 b1 b2 b3 : Nat}
set_option maxRecDepth 100000 in
theorem torn_full (hc : Caps x s xs b0 b1 b2 b3 W) (h : DiskAt x W) (hf : ¬ (xs.length : Int) ≤ x.room - x.used) :
    Calls Tryz.prog 49 #[.pointer (some ⟨b2, 0, none⟩), .pointer (some ⟨b0, 0, none⟩), .pointer (some ⟨b3, 0, none⟩), .pointer (some ⟨b1, 0, none⟩)] W fun e W' => e = .returned (.tuple #[]) ∧
      DiskAt x W' ∧ Chg x.ft x.ft W W' := by
  obtain ⟨k0, k1, k2, k3⟩ := hc.reads
  rw [decide_eq_false hf] at k3
  have d4 := h.reads.1.2.2.2.2.1
  have hxs := str_size xs
  have HS := Lib.hid (fun (V : World) (hV : Below W.heap.size W V) => (show V.cell? ⟨b0, 0, none⟩ = some (.pointer (some ⟨x.d, 0, none⟩)) ∧ V.cell? ⟨b2, 0, none⟩ = some (.string (str xs)) ∧ V.cell? ⟨x.d, 4, none⟩ = some (.int .i64 x.torn) from
    ⟨cell_of ((hV.block _ (lt_of hc.c0)).trans hc.c0) 0, cell_of ((hV.block _ (lt_of hc.c2)).trans hc.c2) 0, (h.below hV).reads.1.2.2.2.2.1⟩))
  obtain ⟨m, hm⟩ : ∃ m, m = tornN x.torn xs.length := ⟨_, rfl⟩
  have HC := Lib.hid h
  clear hc h hf
  go_enter Tryz.func49, Tryz.ntmps49
  go_wp2_with fail
  have H0 : Below W.heap.size W W.drew := (Below.refl _ _).drew
  refine Drawn.start (fun V => Below W.heap.size W V) (fun _ => false) (by kernel_rfl) ?_
  refine Drawn.take 0 (some 5) (v := ?_) rfl rfl (by kernel_rfl) (by kernel_rfl) (by kernel_rfl) (by kernel_rfl) (by kernel_rfl) rfl (fun _ _ _ h => h) (Or.inl ⟨rfl, ?_⟩) H0 ?_
  rotate_left
  · intro W hW; have hW := HS.out W hW; go_simp; try with_reducible rfl
  simp only [put_list, List.set]
  refine Drawn.take 1 (some 6) (v := ?_) rfl rfl (by kernel_rfl) (by kernel_rfl) (by kernel_rfl) (by kernel_rfl) (by kernel_rfl) rfl (fun _ _ _ h => h) (Or.inl ⟨rfl, ?_⟩) H0 ?_
  rotate_left
  · intro W hW; have hW := HS.out W hW; go_simp; try with_reducible rfl
  simp only [put_list, List.set]
  refine Drawn.take 2 (some 7) (v := ?_) rfl rfl (by kernel_rfl) (by kernel_rfl) (by kernel_rfl) (by kernel_rfl) (by kernel_rfl) rfl (fun _ _ _ h => h) (Or.inl ⟨rfl, ?_⟩) H0 ?_
  rotate_left
  · intro W hW; have hW := HS.out W hW; go_simp; try with_reducible rfl
  simp only [put_list, List.set]
  refine Drawn.take 3 (some 8) (v := ?_) rfl rfl (by kernel_rfl) (by kernel_rfl) (by kernel_rfl) (by kernel_rfl) (by kernel_rfl) rfl (fun _ _ _ h => h) (Or.inl ⟨rfl, ?_⟩) H0 ?_
  rotate_left
  · intro W hW; have hW := HS.out W hW; go_simp; try with_reducible rfl
  simp only [put_list, List.set]
  refine Drawn.take 4 (some 9) (v := ?_) rfl rfl (by kernel_rfl) (by kernel_rfl) (by kernel_rfl) (by kernel_rfl) (by kernel_rfl) rfl (fun _ _ _ h => h) (Or.inl ⟨rfl, ?_⟩) H0 ?_
  rotate_left
  · intro W hW; have hW := HS.out W hW; go_simp; try with_reducible rfl
  simp only [put_list, List.set]
  refine Drawn.take 5 (some 10) (v := ?_) rfl rfl (by kernel_rfl) (by kernel_rfl) (by kernel_rfl) (by kernel_rfl) (by kernel_rfl) rfl (fun _ _ _ h => h) (Or.inl ⟨rfl, ?_⟩) H0 ?_
  rotate_left
  · intro W hW; have hW := HS.out W hW; go_simp; try with_reducible rfl
  simp only [put_list, List.set]
  refine Drawn.take 6 (some 11) (v := ?_) rfl rfl (by kernel_rfl) (by kernel_rfl) (by kernel_rfl) (by kernel_rfl) (by kernel_rfl) rfl (fun _ _ _ h => h) (Or.inl ⟨rfl, ?_⟩) H0 ?_
  rotate_left
  · intro W hW; have hW := HS.out W hW; go_simp; try with_reducible rfl
  simp only [put_list, List.set]
  refine Drawn.take 7 (some 12) (v := ?_) rfl rfl (by kernel_rfl) (by kernel_rfl) (by kernel_rfl) (by kernel_rfl) (by kernel_rfl) rfl (fun _ _ _ h => h) (Or.inl ⟨rfl, ?_⟩) H0 ?_
  rotate_left
  · intro W hW; have hW := HS.out W hW; go_simp; try with_reducible rfl
  simp only [put_list, List.set]
  refine Drawn.take 8 (some 13) (v := ?_) rfl rfl (by kernel_rfl) (by kernel_rfl) (by kernel_rfl) (by kernel_rfl) (by kernel_rfl) rfl (fun _ _ _ h => h) (Or.inl ⟨rfl, ?_⟩) H0 ?_
  rotate_left
  · intro W hW; have hW := HS.out W hW; go_simp; try with_reducible rfl
  simp only [put_list, List.set]
  rw [torn_is, ← hm]
  have hle : m ≤ xs.length := by rw [hm]; exact Nat.min_le_right _ _
  have hst := str_take xs m
  have HM := Lib.hid hm
  clear hm
  refine Drawn.take 9 (some 14) (v := ?_) rfl rfl (by kernel_rfl) (by kernel_rfl) (by kernel_rfl) (by kernel_rfl) (by kernel_rfl) rfl (fun _ _ _ h => h) (Or.inl ⟨rfl, ?_⟩) H0 ?_
  rotate_left
  · intro W hW; have hW := HS.out W hW; go_simp; try with_reducible rfl
  simp only [put_list, List.set]
  refine Drawn.take 10 (some 4) (v := ?_) rfl rfl (by kernel_rfl) (by kernel_rfl) (by kernel_rfl) (by kernel_rfl) (by kernel_rfl) rfl (fun _ _ _ h => h) (Or.inl ⟨rfl, ?_⟩) H0 ?_
  rotate_left
  · intro W hW; have hW := HS.out W hW; go_simp; try with_reducible rfl
  simp only [put_list, List.set]
  refine Drawn.done (by kernel_rfl) ?_ _
  have k3 : W.drew.cell? ⟨b3, 0, none⟩ = some (.bool false) := k3
  have k0 : W.drew.cell? ⟨b0, 0, none⟩ = some (.pointer (some ⟨x.d, 0, none⟩)) := k0
  have k1 : W.drew.cell? ⟨b1, 0, none⟩ = some (.string (str s)) := k1
  clear HS hst hle HM
  generalize (if x.torn < 0 then 0 else x.torn) = q at *
  go_wp2_with fail
  go_end0
  exact ⟨rfl, HC.out.drew, Chg.of_below H0⟩
theorem append_crash_full (h : DiskAt x W) (hd : x.dead = false) (ha : x.after = 0) (hx : Fine x) (hf : ¬ (xs.length : Int) ≤ x.room - x.used) :
    Calls Tryz.prog 22 #[.pointer (some ⟨x.d, 0, none⟩), .string (str s), .string (str xs)] W fun e W' => e = .returned (.int .i64 19) ∧ DiskAt { x with dead := true } W' ∧ Chg x.ft x.ft W W' := by
  refine (append_any h s xs ⟨by have := hx.used; omega, by have := hx.used; omega⟩ ⟨hx.room.1, by have := hx.room; omega⟩ (fun r W' => r = 19 ∧ DiskAt { x with dead := true } W' ∧ Chg x.ft x.ft W W') fun W1 b0 b1 b2 b3 h1 hb1 hc => ?_).mono ?_
  · refine (step_crash h1 hd ha _ _ _ (enter_torn _ _ _ _) (fun W' => DiskAt { x with dead := true } W' ∧ Chg x.ft x.ft W W') fun W2 h2 hc2 => ?_).mono ?_
    · refine (torn_full (hc.chg (y := { x with dead := true }) hc2 (fun _ h => h) rfl rfl rfl (fun _ h => h)) h2 hf).mono ?_
      rintro e W3 ⟨rfl, hq, hq2⟩
      exact ⟨rfl, hq, ((Chg.of_below hb1).trans hc2).trans hq2⟩
    · rintro e W2 ⟨rfl, hq⟩
      exact ⟨_, rfl, rfl, hq⟩
  · rintro e W2 ⟨r, rfl, rfl, hq⟩
    exact ⟨rfl, hq⟩
theorem enter_change2 (w : World) : (callFunc 83 #[]).run Tryz.prog w = .ok (.enter 83 #[]) w := by kernel_rfl
set_option maxRecDepth 100000 in
theorem chg2_c (W : World) : Calls Tryz.prog 83 #[] W fun e W' => e = .returned (.tuple #[]) ∧ W' = W := by
  go_enter Tryz.func83, Tryz.ntmps83
  go_wp2_with fail
  go_end0
  exact ⟨rfl, rfl⟩
/-- change, in each of its ways. -/
theorem change_all (h : DiskAt x W) (hx : Fine x) (hs : s.length ≤ maxLen) (nd : FuncId) (dc : Array Value)
    (hen : ∀ w, (callFunc nd (#[.pointer (some ⟨x.d, 0, none⟩), .string (str s)] ++ dc)).run Tryz.prog w = .ok (.enter nd (#[.pointer (some ⟨x.d, 0, none⟩), .string (str s)] ++ dc)) w) (Q : Int → World → Prop)
    (h1 : x.dead = true → ∀ W', DiskAt x W' → Chg x.ft x.ft W W' → Q 19 W') (h2 : x.dead = false → x.after = 0 → ∀ W', DiskAt { x with dead := true } W' → Chg x.ft x.ft W W' → Q 19 W')
    (h3 : x.dead = false → x.after ≠ 0 → x.fs s = none → ∀ W', DiskAt x.tick W' → Chg x.ft x.ft W W' → Q 6 W')
    (h4 : x.dead = false → x.after ≠ 0 → ∀ f, x.fs s = some f → ∀ W1, DiskAt x.tick W1 → Chg x.ft x.ft W W1 → Calls Tryz.prog nd (#[.pointer (some ⟨x.d, 0, none⟩), .string (str s)] ++ dc) W1 fun e W' => e = .returned (.tuple #[]) ∧ Q 0 W') :
    Calls Tryz.prog 65 #[.pointer (some ⟨x.d, 0, none⟩), .string (str s), .func (.func nd) #[] dc] W fun e W' => ∃ r, e = .returned (.int .i64 r) ∧ Q r W' := by
  cases hd : x.dead with
  | true =>
    refine change_any h s nd dc Q fun W1 b0 b1 b2 q1 hb1 hc => ?_
    refine (step_dead q1 hd _ _).mono ?_
    rintro e W2 ⟨rfl, rfl⟩
    exact ⟨_, rfl, h1 hd _ q1 (Chg.of_below hb1)⟩
  | false =>
    by_cases ha : x.after = 0
    · refine change_any h s nd dc Q fun W1 b0 b1 b2 q1 hb1 hc => ?_
      refine (step_crash q1 hd ha _ _ _ enter_change2 (fun W' => DiskAt { x with dead := true } W' ∧ Chg x.ft x.ft W W') fun W2 q2 hc2 => ?_).mono ?_
      · refine (chg2_c W2).mono ?_
        rintro e W3 ⟨rfl, rfl⟩
        exact ⟨rfl, q2, (Chg.of_below hb1).trans hc2⟩
      · rintro e W2 ⟨rfl, q2, hc2⟩
        exact ⟨_, rfl, h2 hd ha _ q2 hc2⟩
    · cases hf : x.fs s with
      | none =>
        refine (change_none h hd ha hx hf hs nd dc).mono ?_
        rintro e W2 ⟨rfl, q1, q2⟩
        exact ⟨_, rfl, h3 hd ha hf _ q1 q2⟩
      | some f =>
        refine (change_some h hd ha hx hf hs nd dc hen (Q 0) (h4 hd ha f hf)).mono ?_
        rintro e W2 ⟨rfl, q⟩
        exact ⟨_, rfl, q⟩
set_option maxRecDepth 100000 in
theorem sync_of (Q : Int → World → Prop) (d : Nat) (s : Nm) (h : Calls Tryz.prog 65 #[.pointer (some ⟨d, 0, none⟩), .string (str s), .func (.func 55) #[] #[]] W fun e W' => ∃ r, e = .returned (.int .i64 r) ∧ Q r W') :
    Calls Tryz.prog 58 #[.pointer (some ⟨d, 0, none⟩), .string (str s)] W fun e W' => ∃ r, e = .returned (.int .i64 r) ∧ Q r W' := by
  have HC := Lib.hid h
  clear h
  generalize str s = y at *
  go_enter Tryz.func58, Tryz.ntmps58
  go_wp2_with fail
  refine HC.out.mono ?_
  rintro e W2 ⟨r, rfl, hq⟩
  have HQ := Lib.hid hq
  clear hq HC
  go_wp2_with fail
  go_ret
  exact ⟨_, rfl, HQ.out⟩
set_option maxRecDepth 100000 in
theorem delete_of (Q : Int → World → Prop) (d : Nat) (s : Nm) (h : Calls Tryz.prog 65 #[.pointer (some ⟨d, 0, none⟩), .string (str s), .func (.func 66) #[] #[]] W fun e W' => ∃ r, e = .returned (.int .i64 r) ∧ Q r W') :
    Calls Tryz.prog 43 #[.pointer (some ⟨d, 0, none⟩), .string (str s)] W fun e W' => ∃ r, e = .returned (.int .i64 r) ∧ Q r W' := by
  have HC := Lib.hid h
  clear h
  generalize str s = y at *
  go_enter Tryz.func43, Tryz.ntmps43
  go_wp2_with fail
  refine HC.out.mono ?_
  rintro e W2 ⟨r, rfl, hq⟩
  have HQ := Lib.hid hq
  clear hq HC
  go_wp2_with fail
  go_ret
  exact ⟨_, rfl, HQ.out⟩
set_option maxRecDepth 100000 in
theorem rename_of (Q : Int → World → Prop) (d : Nat) (s t : Nm) (h : Calls Tryz.prog 65 #[.pointer (some ⟨d, 0, none⟩), .string (str s), .func (.func 84) #[] #[.pointer (some ⟨W.heap.size, 0, none⟩)]] (W.alloc (.cells #[.string (str t)] 9)) fun e W' => ∃ r, e = .returned (.int .i64 r) ∧ Q r W') :
    Calls Tryz.prog 71 #[.pointer (some ⟨d, 0, none⟩), .string (str s), .string (str t)] W fun e W' => ∃ r, e = .returned (.int .i64 r) ∧ Q r W' := by
  have HC := Lib.hid h
  clear h
  generalize str s = y at *
  generalize str t = yt at *
  go_enter Tryz.func71, Tryz.ntmps71
  go_wp2_with fail
  refine HC.out.mono ?_
  rintro e W2 ⟨r, rfl, hq⟩
  have HQ := Lib.hid hq
  clear hq HC
  go_wp2_with fail
  go_ret
  exact ⟨_, rfl, HQ.out⟩
end
section
variable {x : Dk} {W : World}
def Dk.mv0 (x : Dk) (s t : Nm) (f : Fl) : Dk := { x with n := x.n + 1, fs := updF (updF x.fs s none) t (some f) }
set_option maxRecDepth 100000 in
set_option maxHeartbeats 1000000 in
theorem move_new (h : DiskAt x W) {s t : Nm} {f : Fl} (hf : x.fs s = some f) (hg : updF x.fs s none t = none) (hs : s.length ≤ maxLen) (ht : t.length ≤ maxLen) (hn : x.n < 1000000) :
    Calls Tryz.prog 85 #[.pointer (some ⟨x.d, 0, none⟩), .string (str s), .string (str t)] W fun e W' => e = .returned (.tuple #[]) ∧ DiskAt (x.mv0 s t f) W' ∧ Chg x.ft (x.mv0 s t f).ft W W' := by
  obtain ⟨⟨_, c1, _⟩, _⟩ := h.reads
  have hl := h.look hs
  rw [hf] at hl
  simp only [ptrF] at hl
  obtain ⟨D, ho, hat, hhas⟩ := h.own
  have hks := key_str hs
  have hkt := key_str ht
  have H := Lib.hid (And.intro h (And.intro hf (And.intro hg (And.intro ho (And.intro hat (And.intro hhas (And.intro hn (And.intro hs ht))))))))
  clear h hf hg hs ho hat hhas hn ht
  generalize hys : str s = ys at *
  generalize hyt : str t = yt at *
  have HY := Lib.hid (And.intro hys hyt)
  clear hys hyt
  go_enter Tryz.func85, Tryz.ntmps85
  go_wp2_with (first
    | (at_delete; refine wpList_delete_own _ rfl _ _ 66 9 rfl 79 law Tryz.underlying66 ptrElem x.m x.n D rfl H.out.2.2.2.1 _ _ rfl hks ?_; intro W1 ho1 ht1; have hG := H.out.1.gone (s := s) H.out.2.1 H.out.2.2.2.2.1 H.out.2.2.2.2.2.1 ho1 ht1.grown; have hl1 := hG.1.look H.out.2.2.2.2.2.2.2.2; rw [HY.out.2] at hl1; simp only [H.out.2.2.1, ptrF] at hl1; obtain ⟨⟨_, d1, _⟩, _⟩ := hG.1.reads; simp only at d1; obtain ⟨D2, ho2, hat2, hhas2⟩ := hG.1.own; have HG := Lib.hid hG; have HT := Lib.hid ht1; have HD := Lib.hid (And.intro ho2 (And.intro hat2 hhas2)); clear hG ho1 ht1 ho2 hat2 hhas2)
    | (at_mapUpdate; refine wpList_mapUpdate_own _ rfl _ _ _ 66 rfl 9 79 law Tryz.underlying66 ptrElem x.m x.n D2 rfl HD.out.1 (by have := H.out.2.2.2.2.2.2.1; unfold maxLen; omega) _ _ (.string t) rfl rfl hkt (.lit (.int .i64 (f.b : Nat))) [] rfl ?_; intro W3 ho3 hg3; have HR := Lib.hid (And.intro ho3 hg3); clear ho3 hg3))
  go_end0
  obtain ⟨hl1, hl2, hl3⟩ := H.out.1.left H.out.2.1
  have hff := H.out.1.file s f H.out.2.1
  have hf1 : FileAt f W1 := hff.kept (HT.out.grown.block _ (lt_of hff.cell) (by simpa using (H.out.1.ne.2.1 s f H.out.2.1).2.1)) (fun k hk => HT.out.grown.block _ (by obtain ⟨cs, hg⟩ := own_block hff.row hk; exact lt_of hg) (by simpa using ((H.out.1.ne.2.1 s f H.out.2.1).2.2 k hk).2))
  have hz := HG.out.1.regain (s := t) hf1 hl1 hl2 HD.out.1.isMap HD.out.2.1 HD.out.2.2 HR.out.1 HR.out.2
  refine ⟨rfl, hz, (HG.out.2.mono (G' := x.ft) (fun _ h => h) (fun _ h => Or.inr h)).trans ⟨HR.out.2.os, HR.out.2.tape, HR.out.2.output, HR.out.2.size, fun k hk hn => HR.out.2.block k hk (fun e => hn (Or.inr (Or.inl (by simpa using e)))), fun k hk => Or.inl ?_⟩⟩
  rcases hk with e | e | ⟨u, z, hu, hz⟩
  · exact Or.inl e
  · exact Or.inr (Or.inl e)
  · simp only [Dk.mv0, updF] at hu
    split at hu
    · cases hu; exact Or.inr (Or.inr ⟨s, f, H.out.2.1, hz⟩)
    · split at hu
      · cases hu
      · exact Or.inr (Or.inr ⟨u, z, hu, hz⟩)
set_option maxRecDepth 100000 in
theorem ren1_new (h : DiskAt x W) {s t : Nm} {f : Fl} (hf : x.fs s = some f) (hg : updF x.fs s none t = none) (hs : s.length ≤ maxLen) (ht : t.length ≤ maxLen) (hn : x.n < 1000000) {b : Nat} (hc : W.cell? ⟨b, 0, none⟩ = some (.string (str t))) :
    Calls Tryz.prog 84 #[.pointer (some ⟨x.d, 0, none⟩), .string (str s), .pointer (some ⟨b, 0, none⟩)] W fun e W' => e = .returned (.tuple #[]) ∧ DiskAt (x.mv0 s t f) W' ∧ Chg x.ft (x.mv0 s t f).ft W W' := by
  have HC := Lib.hid (move_new h hf hg hs ht hn)
  clear h hf hg hs ht hn
  generalize str s = ys at *
  generalize str t = yt at *
  go_enter Tryz.func84, Tryz.ntmps84
  go_wp2_with fail
  refine HC.out.mono ?_
  rintro e W2 ⟨rfl, hq⟩
  have HQ := Lib.hid hq
  clear hq HC
  go_wp2_with fail
  go_end0
  exact ⟨rfl, HQ.out⟩
end
end Go.Proofs.YtialfpkmcafkmaaGreat
