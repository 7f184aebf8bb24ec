/- The contract of ModularSize. -/
import Derived.Test.YthbfhfgmanafpaaModL
namespace Go.Proofs.Ythbfhfgmanafpaa
open Go.RowKit
attribute [local go_sem ↓] Go.wp_at_zero Go.wp_at_succ

theorem neq_word {a b a0 a1 a2 a3 b0 b1 b2 b3 : Nat} (ha : Dig a a0 a1 a2 a3) (hb : Dig b b0 b1 b2 b3) (h : a ≠ b) (w : World) :
    (binOp .neq 24 (.agg #[.int .u64 a3, .int .u64 a2, .int .u64 a1, .int .u64 a0]) (.agg #[.int .u64 b3, .int .u64 b2, .int .u64 b1, .int .u64 b0])).run Try.prog w = .ok (.bool true) w := by
  have e := eq_word_not ha hb h w
  rw [run_eql_struct] at e
  rw [run_neq_struct]
  generalize (Op.equalIn 10000 24 _ _).run Try.prog w = r at e ⊢
  cases r with
  | ok v w' =>
    simp only [Result.andThen_ok, Result.ok.injEq, Value.bool.injEq] at e ⊢
    obtain ⟨rfl, rfl⟩ := e
    exact ⟨rfl, rfl⟩
  | halt x w' => simp [Result.andThen] at e

/-- x needs just n bytes. -/
def SizeOf (x n : Nat) : Prop := n ≤ 32 ∧ x < 2 ^ (8 * n) ∧ (0 < n → 2 ^ (8 * (n - 1)) ≤ x)
theorem SizeOf.of {x l : Nat} (h : BitLen x l) : SizeOf x ((l + 7) / 8) := by
  obtain ⟨h1, h2, h3⟩ := h
  refine ⟨by omega, Nat.lt_of_lt_of_le h2 (Nat.pow_le_pow_right (by decide) (by omega)), fun hp => ?_⟩
  exact Nat.le_trans (Nat.pow_le_pow_right (by decide) (by omega)) (h3 (by omega))
def RetSize (x : Nat) (w : World) (e : Ending) (w' : World) : Prop := ∃ n : Nat, SizeOf x n ∧ e = .returned (.int .i64 n) ∧ Below w.heap.size w w'
theorem Size_s {x a3 a2 a1 a0 : Nat} (hx : Dig x a0 a1 a2 a3) (w : World) :
    Calls Try.prog 22 #[.agg #[.int .u64 a3, .int .u64 a2, .int .u64 a1, .int .u64 a0]] w (RetSize x w) := by
  refine (Size_c hx w).mono ?_
  rintro e w' ⟨l, hl, rfl, hb⟩
  exact ⟨_, SizeOf.of hl, rfl, hb⟩
theorem SizeOf.less {x y n m : Nat} (hx : SizeOf x n) (hy : SizeOf y m) (h : n < m) : x < y := by
  refine Nat.lt_of_lt_of_le hx.2.1 (Nat.le_trans (Nat.pow_le_pow_right (by decide) ?_) (hy.2.2 (by omega)))
  omega
theorem SizeOf.moved {x n : Nat} (hx : SizeOf x n) : x / 2 ^ (min (8 * n) 256) = 0 := by
  rw [Nat.min_eq_left (by have := hx.1; omega), Nat.div_eq_of_lt hx.2.1]
theorem SizeOf.stays {x n : Nat} (hx : SizeOf x n) (h : 0 < n) : x / 2 ^ (min (8 * (n - 1)) 256) ≠ 0 := by
  rw [Nat.min_eq_left (by have := hx.1; omega)]
  have := Nat.div_pos (hx.2.2 h) (Nat.pow_pos (n := 8 * (n - 1)) (show 0 < 2 by decide))
  omega

set_option maxRecDepth 100000 in
set_option maxHeartbeats 32000000 in
theorem size_c {x y a3 a2 a1 a0 b3 b2 b1 b0 : Nat} (hx : Dig x a0 a1 a2 a3) (hy : Dig y b0 b1 b2 b3) (w : World) :
    Calls Try.prog 7 #[.agg #[.int .u64 a3, .int .u64 a2, .int .u64 a1, .int .u64 a0], .agg #[.int .u64 b3, .int .u64 b2, .int .u64 b1, .int .u64 b0]] w fun e w' => e = .returned (.bool true) ∧ Below w.heap.size w w' := by
  have H := (((Fx.start w).new #[.int .u64 a3, .int .u64 a2, .int .u64 a1, .int .u64 a0] 24).new #[.int .u64 b3, .int .u64 b2, .int .u64 b1, .int .u64 b0] 24).1
  have HA := Lib.hid hx; have HB := Lib.hid hy
  clear hx hy
  go_enter Try.func7, Try.ntmps7
  go_wp2_with fail
  refine (examples2_c _).mono ?_
  rintro e w1 ⟨rfl, hb1⟩
  have H1 := H.call hb1
  have kA := H1.row (.tail _ (.head _)); have kB := H1.row (.head _)
  replace H1 := Lib.hid H1
  clear hb1 H
  go_wp2_with fail
  refine (Size_s HA.out _).mono ?_
  rintro e w2 ⟨n, sx, rfl, hb2⟩
  have H2 := H1.out.call hb2
  have kB := H2.row (.head _)
  have SX := Lib.hid sx
  replace H2 := Lib.hid H2
  clear hb2 H1 kA sx
  go_wp2_with fail
  refine (Size_s HB.out _).mono ?_
  rintro e w3 ⟨m, sy, rfl, hb3⟩
  have H0 := (H2.out.call hb3).drew
  have SY := Lib.hid sy
  replace H0 := Lib.hid H0
  clear hb3 H2 kB sy
  go_wp2_with fail
  replace H0 := H0.out
  have HS := Lib.hid (fun W (hW : Fr w w.heap.size (w.heap.size + 1 + 1) [(w.heap.size + 1, #[.int .u64 b3, .int .u64 b2, .int .u64 b1, .int .u64 b0], 24), (w.heap.size, #[.int .u64 a3, .int .u64 a2, .int .u64 a1, .int .u64 a0], 24)] W) => And.intro (hW.row (.head _)) (hW.row (.tail _ (.head _))))
  have hn : (n : Int) ≤ 32 := by have := SX.out.1; omega
  have hm : (m : Int) ≤ 32 := by have := SY.out.1; omega
  obtain ⟨e, he⟩ : ∃ e, e = 8 * n := ⟨_, rfl⟩
  have HMv := Lib.hid SX.out.moved
  rw [← he] at HMv
  have HEM := Lib.hid (show e < M64 by unfold M64; omega)
  have hw1 : IntKind.i64.wrap (8 * (n : Int)) = (e : Int) := by rw [IntWalk.i64_in _ (by omega)]; omega
  have hw2 : IntKind.u64.wrap (e : Int) = (e : Int) := by rw [IntKind.wrap_u64]; omega
  clear he
  rcases Nat.eq_zero_or_pos n with hn0 | hn0 <;> rcases Nat.lt_or_ge n m with hge | hge
  · skip
    have hz : ((n : Int) == 0) = true := by simp; omega
    have HLT := Lib.hid (SX.out.less SY.out hge)
    have hg : decide ((m : Int) ≤ (n : Int)) = false := by simp; omega
    have hg' : decide (m ≤ n) = false := by simp; omega
    clear hn0 hge
    refine Drawn.start (Fr w w.heap.size (w.heap.size + 1 + 1) [(w.heap.size + 1, #[.int .u64 b3, .int .u64 b2, .int .u64 b1, .int .u64 b0], 24), (w.heap.size, #[.int .u64 a3, .int .u64 a2, .int .u64 a1, .int .u64 a0], 24)]) (fun _ => false) (by kernel_rfl) ?_
    refine Drawn.take 0 (some 15) (v := ?_) rfl rfl (by kernel_rfl) (by kernel_rfl) (by kernel_rfl) (by kernel_rfl) (by kernel_rfl) rfl (fun _ _ _ h => h) (Or.inl ⟨rfl, ?_⟩) H0 ?_
    rotate_left
    · intro W hW; have hW := HS.out W hW; go_simp; try with_reducible rfl
    simp only [put_list, List.set]
    refine Drawn.take 1 (some 16) (v := ?_) rfl rfl (by kernel_rfl) (by kernel_rfl) (by kernel_rfl) (by kernel_rfl) (by kernel_rfl) rfl (fun _ _ _ h => h) (Or.inl ⟨rfl, ?_⟩) H0 ?_
    rotate_left
    · intro W hW; have hW := HS.out W hW; go_simp; try with_reducible rfl
    simp only [put_list, List.set]
    refine Drawn.take 2 (some 17) (v := ?_) rfl rfl (by kernel_rfl) (by kernel_rfl) (by kernel_rfl) (by kernel_rfl) (by kernel_rfl) rfl (fun _ _ _ h => h) (Or.inl ⟨rfl, ?_⟩) H0 ?_
    rotate_left
    · intro W hW; have hW := HS.out W hW; go_simp; try with_reducible rfl
    simp only [put_list, List.set]
    refine Drawn.take 3 (some 18) (v := .bool true) rfl rfl (by kernel_rfl) (by kernel_rfl) (by kernel_rfl) (by kernel_rfl) (by kernel_rfl) rfl (fun _ _ _ h => h) (Or.inl ⟨rfl, ?_⟩) H0 ?_
    · intro W hW; have hW := HS.out W hW; go_simp <;> (try simp) <;> (try omega)
    simp only [put_list, List.set]
    refine Drawn.take 4 (some 19) (v := ?_) rfl rfl (by kernel_rfl) (by kernel_rfl) (by kernel_rfl) (by kernel_rfl) (by kernel_rfl) rfl (fun _ _ _ h => h) (Or.inl ⟨rfl, ?_⟩) H0 ?_
    rotate_left
    · intro W hW; have hW := HS.out W hW; go_simp; try with_reducible rfl
    simp only [put_list, List.set]
    refine Drawn.take 5 (some 20) (v := ?_) rfl rfl (by kernel_rfl) (by kernel_rfl) (by kernel_rfl) (by kernel_rfl) (by kernel_rfl) rfl (fun _ _ _ h => h) (Or.inl ⟨rfl, ?_⟩) H0 ?_
    rotate_left
    · intro W hW; have hW := HS.out W hW; go_simp; try with_reducible rfl
    simp only [put_list, List.set]
    refine Drawn.take 6 (some 21) (v := ?_) rfl rfl (by kernel_rfl) (by kernel_rfl) (by kernel_rfl) (by kernel_rfl) (by kernel_rfl) rfl (fun _ _ _ h => h) (Or.inl ⟨rfl, ?_⟩) H0 ?_
    rotate_left
    · intro W hW; have hW := HS.out W hW; go_simp; try with_reducible rfl
    simp only [put_list, List.set]
    refine Drawn.take 7 (some 22) (v := .bool true) rfl rfl (by kernel_rfl) (by kernel_rfl) (by kernel_rfl) (by kernel_rfl) (by kernel_rfl) rfl (fun _ _ _ h => h) (Or.inl ⟨rfl, ?_⟩) H0 ?_
    · intro W hW; have hW := HS.out W hW; go_simp <;> (try simp) <;> (try omega)
    simp only [put_list, List.set]
    refine Drawn.take 8 (some 23) (v := ?_) rfl rfl (by kernel_rfl) (by kernel_rfl) (by kernel_rfl) (by kernel_rfl) (by kernel_rfl) rfl (fun _ _ _ h => h) (Or.inl ⟨rfl, ?_⟩) H0 ?_
    rotate_left
    · intro W hW; have hW := HS.out W hW; go_simp; try with_reducible rfl
    simp only [put_list, List.set]
    refine Drawn.take 9 (some 24) (v := ?_) rfl rfl (by kernel_rfl) (by kernel_rfl) (by kernel_rfl) (by kernel_rfl) (by kernel_rfl) rfl (fun _ _ _ h => h) (Or.inl ⟨rfl, ?_⟩) H0 ?_
    rotate_left
    · intro W hW; have hW := HS.out W hW; go_simp; try with_reducible rfl
    simp only [put_list, List.set]
    refine Drawn.take 10 (some 25) (v := ?_) rfl rfl (by kernel_rfl) (by kernel_rfl) (by kernel_rfl) (by kernel_rfl) (by kernel_rfl) rfl (fun _ _ _ h => h) (Or.inl ⟨rfl, ?_⟩) H0 ?_
    rotate_left
    · intro W hW; have hW := HS.out W hW; go_simp; try with_reducible rfl
    simp only [put_list, List.set]
    refine Drawn.take 11 (some 26) (v := ?_) rfl rfl (by kernel_rfl) (by kernel_rfl) (by kernel_rfl) (by kernel_rfl) (by kernel_rfl) rfl (fun _ _ _ h => h) (Or.inl ⟨rfl, ?_⟩) H0 ?_
    rotate_left
    · intro W hW; have hW := HS.out W hW; go_simp; try with_reducible rfl
    simp only [put_list, List.set]
    refine Drawn.take 12 (some 27) (v := ?_) rfl rfl (by kernel_rfl) (by kernel_rfl) (by kernel_rfl) (by kernel_rfl) (by kernel_rfl) rfl (fun _ _ _ h => h) (Or.inl ⟨rfl, ?_⟩) H0 ?_
    rotate_left
    · intro W hW; have hW := HS.out W hW; go_simp; try with_reducible rfl
    simp only [put_list, List.set]
    refine Drawn.take 14 (some 29) (v := ?_) rfl rfl (by kernel_rfl) (by kernel_rfl) (by kernel_rfl) (by kernel_rfl) (by kernel_rfl) rfl (fun _ _ _ h => h) (Or.inl ⟨rfl, ?_⟩) H0 ?_
    rotate_left
    · intro W hW; have hW := HS.out W hW; go_simp; try with_reducible rfl
    simp only [put_list, List.set]
    refine Drawn.take 16 (some 31) (v := ?_) rfl rfl (by kernel_rfl) (by kernel_rfl) (by kernel_rfl) (by kernel_rfl) (by kernel_rfl) rfl (fun _ _ _ h => h) (Or.inl ⟨rfl, ?_⟩) H0 ?_
    rotate_left
    · intro W hW; have hW := HS.out W hW; go_simp; try with_reducible rfl
    simp only [put_list, List.set]
    refine Drawn.only 13 (by kernel_rfl) rfl rfl (fun K hK => ?_)
    go_simp
    refine (from_any e _).mono ?_
    rintro e w9 ⟨rfl, hb⟩
    refine hK _ _ (fun _ _ => H0.call hb) ?_
    replace H0 := H0.call hb
    clear hK K hb
    refine Drawn.only 15 (by kernel_rfl) rfl rfl (fun K hK => ?_)
    go_simp
    refine (Shr_d (dig_small HEM.out) HA.out _).mono ?_
    rintro e w9 ⟨p153, p152, p151, p150, rfl, hd, hb⟩
    refine hK _ _ (fun _ _ => H0.call hb) ?_
    replace H0 := H0.call hb
    clear hK K hb
    have D15 := Lib.hid hd
    clear hd
    obtain ⟨rfl, rfl, rfl, rfl⟩ := Dig.same D15.out dig_zero (HMv.out)
    refine Drawn.take 17 (some 32) (v := ?_) rfl rfl (by kernel_rfl) (by kernel_rfl) (by kernel_rfl) (by kernel_rfl) (by kernel_rfl) rfl (fun _ _ _ h => h) (Or.inl ⟨rfl, ?_⟩) H0 ?_
    rotate_left
    · intro W hW; have hW := HS.out W hW; go_simp; try with_reducible rfl
    simp only [put_list, List.set]
    refine Drawn.take 18 (some 33) (v := ?_) rfl rfl (by kernel_rfl) (by kernel_rfl) (by kernel_rfl) (by kernel_rfl) (by kernel_rfl) rfl (fun _ _ _ h => h) (Or.inl ⟨rfl, ?_⟩) H0 ?_
    rotate_left
    · intro W hW; have hW := HS.out W hW; go_simp; try with_reducible rfl
    simp only [put_list, List.set]
    refine Drawn.take 19 (some 34) (v := ?_) rfl rfl (by kernel_rfl) (by kernel_rfl) (by kernel_rfl) (by kernel_rfl) (by kernel_rfl) rfl (fun _ _ _ h => h) (Or.inl ⟨rfl, ?_⟩) H0 ?_
    rotate_left
    · intro W hW; have hW := HS.out W hW; go_simp; try with_reducible rfl
    simp only [put_list, List.set]
    refine Drawn.take 20 (some 35) (v := ?_) rfl rfl (by kernel_rfl) (by kernel_rfl) (by kernel_rfl) (by kernel_rfl) (by kernel_rfl) rfl (fun _ _ _ h => h) (Or.inl ⟨rfl, ?_⟩) H0 ?_
    rotate_left
    · intro W hW; have hW := HS.out W hW; go_simp; try with_reducible rfl
    simp only [put_list, List.set]
    refine Drawn.take 21 (some 36) (v := .bool true) rfl rfl (by kernel_rfl) (by kernel_rfl) (by kernel_rfl) (by kernel_rfl) (by kernel_rfl) rfl (fun _ _ _ h => h) (Or.inl ⟨rfl, ?_⟩) H0 ?_
    · intro W hW; have hW := HS.out W hW; go_simp <;> (try simp) <;> (try omega)
    simp only [put_list, List.set]
    refine Drawn.take 22 (some 37) (v := ?_) rfl rfl (by kernel_rfl) (by kernel_rfl) (by kernel_rfl) (by kernel_rfl) (by kernel_rfl) rfl (fun _ _ _ h => h) (Or.inl ⟨rfl, ?_⟩) H0 ?_
    rotate_left
    · intro W hW; have hW := HS.out W hW; go_simp; try with_reducible rfl
    simp only [put_list, List.set]
    refine Drawn.take 23 (some 38) (v := undef) rfl rfl (by kernel_rfl) (by kernel_rfl) (by kernel_rfl) (by kernel_rfl) (by kernel_rfl) rfl (fun _ _ _ h => h) (Or.inr ⟨rfl, rfl⟩) H0 ?_
    simp only [put_list, List.set]
    refine Drawn.take 24 (some 39) (v := undef) rfl rfl (by kernel_rfl) (by kernel_rfl) (by kernel_rfl) (by kernel_rfl) (by kernel_rfl) rfl (fun _ _ _ h => h) (Or.inr ⟨rfl, rfl⟩) H0 ?_
    simp only [put_list, List.set]
    refine Drawn.take 25 (some 40) (v := undef) rfl rfl (by kernel_rfl) (by kernel_rfl) (by kernel_rfl) (by kernel_rfl) (by kernel_rfl) rfl (fun _ _ _ h => h) (Or.inr ⟨rfl, rfl⟩) H0 ?_
    simp only [put_list, List.set]
    refine Drawn.take 26 (some 41) (v := undef) rfl rfl (by kernel_rfl) (by kernel_rfl) (by kernel_rfl) (by kernel_rfl) (by kernel_rfl) rfl (fun _ _ _ h => h) (Or.inr ⟨rfl, rfl⟩) H0 ?_
    simp only [put_list, List.set]
    refine Drawn.take 27 (some 42) (v := undef) rfl rfl (by kernel_rfl) (by kernel_rfl) (by kernel_rfl) (by kernel_rfl) (by kernel_rfl) rfl (fun _ _ _ h => h) (Or.inr ⟨rfl, rfl⟩) H0 ?_
    simp only [put_list, List.set]
    refine Drawn.take 28 (some 43) (v := undef) rfl rfl (by kernel_rfl) (by kernel_rfl) (by kernel_rfl) (by kernel_rfl) (by kernel_rfl) rfl (fun _ _ _ h => h) (Or.inr ⟨rfl, rfl⟩) H0 ?_
    simp only [put_list, List.set]
    refine Drawn.take 29 (some 44) (v := undef) rfl rfl (by kernel_rfl) (by kernel_rfl) (by kernel_rfl) (by kernel_rfl) (by kernel_rfl) rfl (fun _ _ _ h => h) (Or.inr ⟨rfl, rfl⟩) H0 ?_
    simp only [put_list, List.set]
    refine Drawn.take 30 (some 45) (v := undef) rfl rfl (by kernel_rfl) (by kernel_rfl) (by kernel_rfl) (by kernel_rfl) (by kernel_rfl) rfl (fun _ _ _ h => h) (Or.inr ⟨rfl, rfl⟩) H0 ?_
    simp only [put_list, List.set]
    refine Drawn.take 31 (some 46) (v := undef) rfl rfl (by kernel_rfl) (by kernel_rfl) (by kernel_rfl) (by kernel_rfl) (by kernel_rfl) rfl (fun _ _ _ h => h) (Or.inr ⟨rfl, rfl⟩) H0 ?_
    simp only [put_list, List.set]
    refine Drawn.take 32 (some 47) (v := ?_) rfl rfl (by kernel_rfl) (by kernel_rfl) (by kernel_rfl) (by kernel_rfl) (by kernel_rfl) rfl (fun _ _ _ h => h) (Or.inl ⟨rfl, ?_⟩) H0 ?_
    rotate_left
    · intro W hW; have hW := HS.out W hW; go_simp; try with_reducible rfl
    simp only [put_list, List.set]
    refine Drawn.take 33 (some 48) (v := ?_) rfl rfl (by kernel_rfl) (by kernel_rfl) (by kernel_rfl) (by kernel_rfl) (by kernel_rfl) rfl (fun _ _ _ h => h) (Or.inl ⟨rfl, ?_⟩) H0 ?_
    rotate_left
    · intro W hW; have hW := HS.out W hW; go_simp; try with_reducible rfl
    simp only [put_list, List.set]
    refine Drawn.take 34 (some 49) (v := ?_) rfl rfl (by kernel_rfl) (by kernel_rfl) (by kernel_rfl) (by kernel_rfl) (by kernel_rfl) rfl (fun _ _ _ h => h) (Or.inl ⟨rfl, ?_⟩) H0 ?_
    rotate_left
    · intro W hW; have hW := HS.out W hW; go_simp; try with_reducible rfl
    simp only [put_list, List.set]
    refine Drawn.take 35 (some 50) (v := ?_) rfl rfl (by kernel_rfl) (by kernel_rfl) (by kernel_rfl) (by kernel_rfl) (by kernel_rfl) rfl (fun _ _ _ h => h) (Or.inl ⟨rfl, ?_⟩) H0 ?_
    rotate_left
    · intro W hW; have hW := HS.out W hW; go_simp; try with_reducible rfl
    simp only [put_list, List.set]
    refine Drawn.take 36 (some 51) (v := ?_) rfl rfl (by kernel_rfl) (by kernel_rfl) (by kernel_rfl) (by kernel_rfl) (by kernel_rfl) rfl (fun _ _ _ h => h) (Or.inl ⟨rfl, ?_⟩) H0 ?_
    rotate_left
    · intro W hW; have hW := HS.out W hW; go_simp; try with_reducible rfl
    simp only [put_list, List.set]
    refine Drawn.take 37 (some 52) (v := .bool false) rfl rfl (by kernel_rfl) (by kernel_rfl) (by kernel_rfl) (by kernel_rfl) (by kernel_rfl) rfl (fun _ _ _ h => h) (Or.inl ⟨rfl, ?_⟩) H0 ?_
    · intro W hW; have hW := HS.out W hW; go_simp <;> (try simp) <;> (try omega)
    simp only [put_list, List.set]
    refine Drawn.take 38 (some 53) (v := ?_) rfl rfl (by kernel_rfl) (by kernel_rfl) (by kernel_rfl) (by kernel_rfl) (by kernel_rfl) rfl (fun _ _ _ h => h) (Or.inl ⟨rfl, ?_⟩) H0 ?_
    rotate_left
    · intro W hW; have hW := HS.out W hW; go_simp; try with_reducible rfl
    simp only [put_list, List.set]
    refine Drawn.take 39 (some 54) (v := ?_) rfl rfl (by kernel_rfl) (by kernel_rfl) (by kernel_rfl) (by kernel_rfl) (by kernel_rfl) rfl (fun _ _ _ h => h) (Or.inl ⟨rfl, ?_⟩) H0 ?_
    rotate_left
    · intro W hW; have hW := HS.out W hW; go_simp; try with_reducible rfl
    simp only [put_list, List.set]
    refine Drawn.take 40 (some 55) (v := ?_) rfl rfl (by kernel_rfl) (by kernel_rfl) (by kernel_rfl) (by kernel_rfl) (by kernel_rfl) rfl (fun _ _ _ h => h) (Or.inl ⟨rfl, ?_⟩) H0 ?_
    rotate_left
    · intro W hW; have hW := HS.out W hW; go_simp; try with_reducible rfl
    simp only [put_list, List.set]
    refine Drawn.only 41 (by kernel_rfl) rfl rfl (fun K hK => ?_)
    go_simp
    refine (Less_true HA.out HB.out HLT.out _).mono ?_
    rintro e w9 ⟨rfl, hb⟩
    refine hK _ _ (fun _ _ => H0.call hb) ?_
    replace H0 := H0.call hb
    clear hK K hb
    refine Drawn.take 42 (some 57) (v := ?_) rfl rfl (by kernel_rfl) (by kernel_rfl) (by kernel_rfl) (by kernel_rfl) (by kernel_rfl) rfl (fun _ _ _ h => h) (Or.inl ⟨rfl, ?_⟩) H0 ?_
    rotate_left
    · intro W hW; have hW := HS.out W hW; go_simp; try with_reducible rfl
    simp only [put_list, List.set]
    refine Drawn.take 43 (some 58) (v := ?_) rfl rfl (by kernel_rfl) (by kernel_rfl) (by kernel_rfl) (by kernel_rfl) (by kernel_rfl) rfl (fun _ _ _ h => h) (Or.inl ⟨rfl, ?_⟩) H0 ?_
    rotate_left
    · intro W hW; have hW := HS.out W hW; go_simp; try with_reducible rfl
    simp only [put_list, List.set]
    refine Drawn.take 44 (some 4) (v := ?_) rfl rfl (by kernel_rfl) (by kernel_rfl) (by kernel_rfl) (by kernel_rfl) (by kernel_rfl) rfl (fun _ _ _ h => h) (Or.inl ⟨rfl, ?_⟩) H0 ?_
    rotate_left
    · intro W hW; have hW := HS.out W hW; go_simp; try with_reducible rfl
    simp only [put_list, List.set]
    refine Drawn.done (by kernel_rfl) ?_ _
    go_wp2
    go_ret
    exact ⟨rfl, H0.below⟩
  · skip
    have hz : ((n : Int) == 0) = true := by simp; omega
    have hg : decide ((m : Int) ≤ (n : Int)) = true := by simp; omega
    have hg' : decide (m ≤ n) = true := by simp; omega
    clear hn0 hge
    refine Drawn.start (Fr w w.heap.size (w.heap.size + 1 + 1) [(w.heap.size + 1, #[.int .u64 b3, .int .u64 b2, .int .u64 b1, .int .u64 b0], 24), (w.heap.size, #[.int .u64 a3, .int .u64 a2, .int .u64 a1, .int .u64 a0], 24)]) (fun _ => false) (by kernel_rfl) ?_
    refine Drawn.take 0 (some 15) (v := ?_) rfl rfl (by kernel_rfl) (by kernel_rfl) (by kernel_rfl) (by kernel_rfl) (by kernel_rfl) rfl (fun _ _ _ h => h) (Or.inl ⟨rfl, ?_⟩) H0 ?_
    rotate_left
    · intro W hW; have hW := HS.out W hW; go_simp; try with_reducible rfl
    simp only [put_list, List.set]
    refine Drawn.take 1 (some 16) (v := ?_) rfl rfl (by kernel_rfl) (by kernel_rfl) (by kernel_rfl) (by kernel_rfl) (by kernel_rfl) rfl (fun _ _ _ h => h) (Or.inl ⟨rfl, ?_⟩) H0 ?_
    rotate_left
    · intro W hW; have hW := HS.out W hW; go_simp; try with_reducible rfl
    simp only [put_list, List.set]
    refine Drawn.take 2 (some 17) (v := ?_) rfl rfl (by kernel_rfl) (by kernel_rfl) (by kernel_rfl) (by kernel_rfl) (by kernel_rfl) rfl (fun _ _ _ h => h) (Or.inl ⟨rfl, ?_⟩) H0 ?_
    rotate_left
    · intro W hW; have hW := HS.out W hW; go_simp; try with_reducible rfl
    simp only [put_list, List.set]
    refine Drawn.take 3 (some 18) (v := .bool true) rfl rfl (by kernel_rfl) (by kernel_rfl) (by kernel_rfl) (by kernel_rfl) (by kernel_rfl) rfl (fun _ _ _ h => h) (Or.inl ⟨rfl, ?_⟩) H0 ?_
    · intro W hW; have hW := HS.out W hW; go_simp <;> (try simp) <;> (try omega)
    simp only [put_list, List.set]
    refine Drawn.take 4 (some 19) (v := ?_) rfl rfl (by kernel_rfl) (by kernel_rfl) (by kernel_rfl) (by kernel_rfl) (by kernel_rfl) rfl (fun _ _ _ h => h) (Or.inl ⟨rfl, ?_⟩) H0 ?_
    rotate_left
    · intro W hW; have hW := HS.out W hW; go_simp; try with_reducible rfl
    simp only [put_list, List.set]
    refine Drawn.take 5 (some 20) (v := ?_) rfl rfl (by kernel_rfl) (by kernel_rfl) (by kernel_rfl) (by kernel_rfl) (by kernel_rfl) rfl (fun _ _ _ h => h) (Or.inl ⟨rfl, ?_⟩) H0 ?_
    rotate_left
    · intro W hW; have hW := HS.out W hW; go_simp; try with_reducible rfl
    simp only [put_list, List.set]
    refine Drawn.take 6 (some 21) (v := ?_) rfl rfl (by kernel_rfl) (by kernel_rfl) (by kernel_rfl) (by kernel_rfl) (by kernel_rfl) rfl (fun _ _ _ h => h) (Or.inl ⟨rfl, ?_⟩) H0 ?_
    rotate_left
    · intro W hW; have hW := HS.out W hW; go_simp; try with_reducible rfl
    simp only [put_list, List.set]
    refine Drawn.take 7 (some 22) (v := .bool true) rfl rfl (by kernel_rfl) (by kernel_rfl) (by kernel_rfl) (by kernel_rfl) (by kernel_rfl) rfl (fun _ _ _ h => h) (Or.inl ⟨rfl, ?_⟩) H0 ?_
    · intro W hW; have hW := HS.out W hW; go_simp <;> (try simp) <;> (try omega)
    simp only [put_list, List.set]
    refine Drawn.take 8 (some 23) (v := ?_) rfl rfl (by kernel_rfl) (by kernel_rfl) (by kernel_rfl) (by kernel_rfl) (by kernel_rfl) rfl (fun _ _ _ h => h) (Or.inl ⟨rfl, ?_⟩) H0 ?_
    rotate_left
    · intro W hW; have hW := HS.out W hW; go_simp; try with_reducible rfl
    simp only [put_list, List.set]
    refine Drawn.take 9 (some 24) (v := ?_) rfl rfl (by kernel_rfl) (by kernel_rfl) (by kernel_rfl) (by kernel_rfl) (by kernel_rfl) rfl (fun _ _ _ h => h) (Or.inl ⟨rfl, ?_⟩) H0 ?_
    rotate_left
    · intro W hW; have hW := HS.out W hW; go_simp; try with_reducible rfl
    simp only [put_list, List.set]
    refine Drawn.take 10 (some 25) (v := ?_) rfl rfl (by kernel_rfl) (by kernel_rfl) (by kernel_rfl) (by kernel_rfl) (by kernel_rfl) rfl (fun _ _ _ h => h) (Or.inl ⟨rfl, ?_⟩) H0 ?_
    rotate_left
    · intro W hW; have hW := HS.out W hW; go_simp; try with_reducible rfl
    simp only [put_list, List.set]
    refine Drawn.take 11 (some 26) (v := ?_) rfl rfl (by kernel_rfl) (by kernel_rfl) (by kernel_rfl) (by kernel_rfl) (by kernel_rfl) rfl (fun _ _ _ h => h) (Or.inl ⟨rfl, ?_⟩) H0 ?_
    rotate_left
    · intro W hW; have hW := HS.out W hW; go_simp; try with_reducible rfl
    simp only [put_list, List.set]
    refine Drawn.take 12 (some 27) (v := ?_) rfl rfl (by kernel_rfl) (by kernel_rfl) (by kernel_rfl) (by kernel_rfl) (by kernel_rfl) rfl (fun _ _ _ h => h) (Or.inl ⟨rfl, ?_⟩) H0 ?_
    rotate_left
    · intro W hW; have hW := HS.out W hW; go_simp; try with_reducible rfl
    simp only [put_list, List.set]
    refine Drawn.take 14 (some 29) (v := ?_) rfl rfl (by kernel_rfl) (by kernel_rfl) (by kernel_rfl) (by kernel_rfl) (by kernel_rfl) rfl (fun _ _ _ h => h) (Or.inl ⟨rfl, ?_⟩) H0 ?_
    rotate_left
    · intro W hW; have hW := HS.out W hW; go_simp; try with_reducible rfl
    simp only [put_list, List.set]
    refine Drawn.take 16 (some 31) (v := ?_) rfl rfl (by kernel_rfl) (by kernel_rfl) (by kernel_rfl) (by kernel_rfl) (by kernel_rfl) rfl (fun _ _ _ h => h) (Or.inl ⟨rfl, ?_⟩) H0 ?_
    rotate_left
    · intro W hW; have hW := HS.out W hW; go_simp; try with_reducible rfl
    simp only [put_list, List.set]
    refine Drawn.only 13 (by kernel_rfl) rfl rfl (fun K hK => ?_)
    go_simp
    refine (from_any e _).mono ?_
    rintro e w9 ⟨rfl, hb⟩
    refine hK _ _ (fun _ _ => H0.call hb) ?_
    replace H0 := H0.call hb
    clear hK K hb
    refine Drawn.only 15 (by kernel_rfl) rfl rfl (fun K hK => ?_)
    go_simp
    refine (Shr_d (dig_small HEM.out) HA.out _).mono ?_
    rintro e w9 ⟨p153, p152, p151, p150, rfl, hd, hb⟩
    refine hK _ _ (fun _ _ => H0.call hb) ?_
    replace H0 := H0.call hb
    clear hK K hb
    have D15 := Lib.hid hd
    clear hd
    obtain ⟨rfl, rfl, rfl, rfl⟩ := Dig.same D15.out dig_zero (HMv.out)
    refine Drawn.take 17 (some 32) (v := ?_) rfl rfl (by kernel_rfl) (by kernel_rfl) (by kernel_rfl) (by kernel_rfl) (by kernel_rfl) rfl (fun _ _ _ h => h) (Or.inl ⟨rfl, ?_⟩) H0 ?_
    rotate_left
    · intro W hW; have hW := HS.out W hW; go_simp; try with_reducible rfl
    simp only [put_list, List.set]
    refine Drawn.take 18 (some 33) (v := ?_) rfl rfl (by kernel_rfl) (by kernel_rfl) (by kernel_rfl) (by kernel_rfl) (by kernel_rfl) rfl (fun _ _ _ h => h) (Or.inl ⟨rfl, ?_⟩) H0 ?_
    rotate_left
    · intro W hW; have hW := HS.out W hW; go_simp; try with_reducible rfl
    simp only [put_list, List.set]
    refine Drawn.take 19 (some 34) (v := ?_) rfl rfl (by kernel_rfl) (by kernel_rfl) (by kernel_rfl) (by kernel_rfl) (by kernel_rfl) rfl (fun _ _ _ h => h) (Or.inl ⟨rfl, ?_⟩) H0 ?_
    rotate_left
    · intro W hW; have hW := HS.out W hW; go_simp; try with_reducible rfl
    simp only [put_list, List.set]
    refine Drawn.take 20 (some 35) (v := ?_) rfl rfl (by kernel_rfl) (by kernel_rfl) (by kernel_rfl) (by kernel_rfl) (by kernel_rfl) rfl (fun _ _ _ h => h) (Or.inl ⟨rfl, ?_⟩) H0 ?_
    rotate_left
    · intro W hW; have hW := HS.out W hW; go_simp; try with_reducible rfl
    simp only [put_list, List.set]
    refine Drawn.take 21 (some 36) (v := .bool true) rfl rfl (by kernel_rfl) (by kernel_rfl) (by kernel_rfl) (by kernel_rfl) (by kernel_rfl) rfl (fun _ _ _ h => h) (Or.inl ⟨rfl, ?_⟩) H0 ?_
    · intro W hW; have hW := HS.out W hW; go_simp <;> (try simp) <;> (try omega)
    simp only [put_list, List.set]
    refine Drawn.take 22 (some 37) (v := ?_) rfl rfl (by kernel_rfl) (by kernel_rfl) (by kernel_rfl) (by kernel_rfl) (by kernel_rfl) rfl (fun _ _ _ h => h) (Or.inl ⟨rfl, ?_⟩) H0 ?_
    rotate_left
    · intro W hW; have hW := HS.out W hW; go_simp; try with_reducible rfl
    simp only [put_list, List.set]
    refine Drawn.take 23 (some 38) (v := undef) rfl rfl (by kernel_rfl) (by kernel_rfl) (by kernel_rfl) (by kernel_rfl) (by kernel_rfl) rfl (fun _ _ _ h => h) (Or.inr ⟨rfl, rfl⟩) H0 ?_
    simp only [put_list, List.set]
    refine Drawn.take 24 (some 39) (v := undef) rfl rfl (by kernel_rfl) (by kernel_rfl) (by kernel_rfl) (by kernel_rfl) (by kernel_rfl) rfl (fun _ _ _ h => h) (Or.inr ⟨rfl, rfl⟩) H0 ?_
    simp only [put_list, List.set]
    refine Drawn.take 25 (some 40) (v := undef) rfl rfl (by kernel_rfl) (by kernel_rfl) (by kernel_rfl) (by kernel_rfl) (by kernel_rfl) rfl (fun _ _ _ h => h) (Or.inr ⟨rfl, rfl⟩) H0 ?_
    simp only [put_list, List.set]
    refine Drawn.take 26 (some 41) (v := undef) rfl rfl (by kernel_rfl) (by kernel_rfl) (by kernel_rfl) (by kernel_rfl) (by kernel_rfl) rfl (fun _ _ _ h => h) (Or.inr ⟨rfl, rfl⟩) H0 ?_
    simp only [put_list, List.set]
    refine Drawn.take 27 (some 42) (v := undef) rfl rfl (by kernel_rfl) (by kernel_rfl) (by kernel_rfl) (by kernel_rfl) (by kernel_rfl) rfl (fun _ _ _ h => h) (Or.inr ⟨rfl, rfl⟩) H0 ?_
    simp only [put_list, List.set]
    refine Drawn.take 28 (some 43) (v := undef) rfl rfl (by kernel_rfl) (by kernel_rfl) (by kernel_rfl) (by kernel_rfl) (by kernel_rfl) rfl (fun _ _ _ h => h) (Or.inr ⟨rfl, rfl⟩) H0 ?_
    simp only [put_list, List.set]
    refine Drawn.take 29 (some 44) (v := undef) rfl rfl (by kernel_rfl) (by kernel_rfl) (by kernel_rfl) (by kernel_rfl) (by kernel_rfl) rfl (fun _ _ _ h => h) (Or.inr ⟨rfl, rfl⟩) H0 ?_
    simp only [put_list, List.set]
    refine Drawn.take 30 (some 45) (v := undef) rfl rfl (by kernel_rfl) (by kernel_rfl) (by kernel_rfl) (by kernel_rfl) (by kernel_rfl) rfl (fun _ _ _ h => h) (Or.inr ⟨rfl, rfl⟩) H0 ?_
    simp only [put_list, List.set]
    refine Drawn.take 31 (some 46) (v := undef) rfl rfl (by kernel_rfl) (by kernel_rfl) (by kernel_rfl) (by kernel_rfl) (by kernel_rfl) rfl (fun _ _ _ h => h) (Or.inr ⟨rfl, rfl⟩) H0 ?_
    simp only [put_list, List.set]
    refine Drawn.take 32 (some 47) (v := ?_) rfl rfl (by kernel_rfl) (by kernel_rfl) (by kernel_rfl) (by kernel_rfl) (by kernel_rfl) rfl (fun _ _ _ h => h) (Or.inl ⟨rfl, ?_⟩) H0 ?_
    rotate_left
    · intro W hW; have hW := HS.out W hW; go_simp; try with_reducible rfl
    simp only [put_list, List.set]
    refine Drawn.take 33 (some 48) (v := ?_) rfl rfl (by kernel_rfl) (by kernel_rfl) (by kernel_rfl) (by kernel_rfl) (by kernel_rfl) rfl (fun _ _ _ h => h) (Or.inl ⟨rfl, ?_⟩) H0 ?_
    rotate_left
    · intro W hW; have hW := HS.out W hW; go_simp; try with_reducible rfl
    simp only [put_list, List.set]
    refine Drawn.take 34 (some 49) (v := ?_) rfl rfl (by kernel_rfl) (by kernel_rfl) (by kernel_rfl) (by kernel_rfl) (by kernel_rfl) rfl (fun _ _ _ h => h) (Or.inl ⟨rfl, ?_⟩) H0 ?_
    rotate_left
    · intro W hW; have hW := HS.out W hW; go_simp; try with_reducible rfl
    simp only [put_list, List.set]
    refine Drawn.take 35 (some 50) (v := ?_) rfl rfl (by kernel_rfl) (by kernel_rfl) (by kernel_rfl) (by kernel_rfl) (by kernel_rfl) rfl (fun _ _ _ h => h) (Or.inl ⟨rfl, ?_⟩) H0 ?_
    rotate_left
    · intro W hW; have hW := HS.out W hW; go_simp; try with_reducible rfl
    simp only [put_list, List.set]
    refine Drawn.take 36 (some 51) (v := ?_) rfl rfl (by kernel_rfl) (by kernel_rfl) (by kernel_rfl) (by kernel_rfl) (by kernel_rfl) rfl (fun _ _ _ h => h) (Or.inl ⟨rfl, ?_⟩) H0 ?_
    rotate_left
    · intro W hW; have hW := HS.out W hW; go_simp; try with_reducible rfl
    simp only [put_list, List.set]
    refine Drawn.take 37 (some 52) (v := .bool true) rfl rfl (by kernel_rfl) (by kernel_rfl) (by kernel_rfl) (by kernel_rfl) (by kernel_rfl) rfl (fun _ _ _ h => h) (Or.inl ⟨rfl, ?_⟩) H0 ?_
    · intro W hW; have hW := HS.out W hW; go_simp <;> (try simp) <;> (try omega)
    simp only [put_list, List.set]
    refine Drawn.take 38 (some 53) (v := ?_) rfl rfl (by kernel_rfl) (by kernel_rfl) (by kernel_rfl) (by kernel_rfl) (by kernel_rfl) rfl (fun _ _ _ h => h) (Or.inl ⟨rfl, ?_⟩) H0 ?_
    rotate_left
    · intro W hW; have hW := HS.out W hW; go_simp; try with_reducible rfl
    simp only [put_list, List.set]
    refine Drawn.take 39 (some 54) (v := undef) rfl rfl (by kernel_rfl) (by kernel_rfl) (by kernel_rfl) (by kernel_rfl) (by kernel_rfl) rfl (fun _ _ _ h => h) (Or.inr ⟨rfl, rfl⟩) H0 ?_
    simp only [put_list, List.set]
    refine Drawn.take 40 (some 55) (v := undef) rfl rfl (by kernel_rfl) (by kernel_rfl) (by kernel_rfl) (by kernel_rfl) (by kernel_rfl) rfl (fun _ _ _ h => h) (Or.inr ⟨rfl, rfl⟩) H0 ?_
    simp only [put_list, List.set]
    refine Drawn.take 41 (some 56) (v := undef) rfl rfl (by kernel_rfl) (by kernel_rfl) (by kernel_rfl) (by kernel_rfl) (by kernel_rfl) rfl (fun _ _ _ h => h) (Or.inr ⟨rfl, rfl⟩) H0 ?_
    simp only [put_list, List.set]
    refine Drawn.take 42 (some 57) (v := ?_) rfl rfl (by kernel_rfl) (by kernel_rfl) (by kernel_rfl) (by kernel_rfl) (by kernel_rfl) rfl (fun _ _ _ h => h) (Or.inl ⟨rfl, ?_⟩) H0 ?_
    rotate_left
    · intro W hW; have hW := HS.out W hW; go_simp; try with_reducible rfl
    simp only [put_list, List.set]
    refine Drawn.take 43 (some 58) (v := ?_) rfl rfl (by kernel_rfl) (by kernel_rfl) (by kernel_rfl) (by kernel_rfl) (by kernel_rfl) rfl (fun _ _ _ h => h) (Or.inl ⟨rfl, ?_⟩) H0 ?_
    rotate_left
    · intro W hW; have hW := HS.out W hW; go_simp; try with_reducible rfl
    simp only [put_list, List.set]
    refine Drawn.take 44 (some 4) (v := ?_) rfl rfl (by kernel_rfl) (by kernel_rfl) (by kernel_rfl) (by kernel_rfl) (by kernel_rfl) rfl (fun _ _ _ h => h) (Or.inl ⟨rfl, ?_⟩) H0 ?_
    rotate_left
    · intro W hW; have hW := HS.out W hW; go_simp; try with_reducible rfl
    simp only [put_list, List.set]
    refine Drawn.done (by kernel_rfl) ?_ _
    go_wp2
    go_ret
    exact ⟨rfl, H0.below⟩
  · skip
    have HSt := Lib.hid (SX.out.stays hn0)
    have hz : ((n : Int) == 0) = false := by simp; omega
    obtain ⟨j, hj⟩ : ∃ j, j = n - 1 := ⟨_, rfl⟩
    rw [← hj] at HSt
    obtain ⟨f, hf⟩ : ∃ f, f = 8 * j := ⟨_, rfl⟩
    rw [← hf] at HSt
    have HFM := Lib.hid (show f < M64 by unfold M64; omega)
    have hw3 : IntKind.i64.wrap ((n : Int) - 1) = (j : Int) := by rw [IntWalk.i64_in _ (by omega)]; omega
    have hw4 : IntKind.i64.wrap (8 * (j : Int)) = (f : Int) := by rw [IntWalk.i64_in _ (by omega)]; omega
    have hw5 : IntKind.u64.wrap (f : Int) = (f : Int) := by rw [IntKind.wrap_u64]; omega
    clear hf hj
    have HLT := Lib.hid (SX.out.less SY.out hge)
    have hg : decide ((m : Int) ≤ (n : Int)) = false := by simp; omega
    have hg' : decide (m ≤ n) = false := by simp; omega
    clear hn0 hge
    refine Drawn.start (Fr w w.heap.size (w.heap.size + 1 + 1) [(w.heap.size + 1, #[.int .u64 b3, .int .u64 b2, .int .u64 b1, .int .u64 b0], 24), (w.heap.size, #[.int .u64 a3, .int .u64 a2, .int .u64 a1, .int .u64 a0], 24)]) (fun _ => false) (by kernel_rfl) ?_
    refine Drawn.take 0 (some 15) (v := ?_) rfl rfl (by kernel_rfl) (by kernel_rfl) (by kernel_rfl) (by kernel_rfl) (by kernel_rfl) rfl (fun _ _ _ h => h) (Or.inl ⟨rfl, ?_⟩) H0 ?_
    rotate_left
    · intro W hW; have hW := HS.out W hW; go_simp; try with_reducible rfl
    simp only [put_list, List.set]
    refine Drawn.take 1 (some 16) (v := ?_) rfl rfl (by kernel_rfl) (by kernel_rfl) (by kernel_rfl) (by kernel_rfl) (by kernel_rfl) rfl (fun _ _ _ h => h) (Or.inl ⟨rfl, ?_⟩) H0 ?_
    rotate_left
    · intro W hW; have hW := HS.out W hW; go_simp; try with_reducible rfl
    simp only [put_list, List.set]
    refine Drawn.take 2 (some 17) (v := ?_) rfl rfl (by kernel_rfl) (by kernel_rfl) (by kernel_rfl) (by kernel_rfl) (by kernel_rfl) rfl (fun _ _ _ h => h) (Or.inl ⟨rfl, ?_⟩) H0 ?_
    rotate_left
    · intro W hW; have hW := HS.out W hW; go_simp; try with_reducible rfl
    simp only [put_list, List.set]
    refine Drawn.take 3 (some 18) (v := .bool true) rfl rfl (by kernel_rfl) (by kernel_rfl) (by kernel_rfl) (by kernel_rfl) (by kernel_rfl) rfl (fun _ _ _ h => h) (Or.inl ⟨rfl, ?_⟩) H0 ?_
    · intro W hW; have hW := HS.out W hW; go_simp <;> (try simp) <;> (try omega)
    simp only [put_list, List.set]
    refine Drawn.take 4 (some 19) (v := ?_) rfl rfl (by kernel_rfl) (by kernel_rfl) (by kernel_rfl) (by kernel_rfl) (by kernel_rfl) rfl (fun _ _ _ h => h) (Or.inl ⟨rfl, ?_⟩) H0 ?_
    rotate_left
    · intro W hW; have hW := HS.out W hW; go_simp; try with_reducible rfl
    simp only [put_list, List.set]
    refine Drawn.take 5 (some 20) (v := ?_) rfl rfl (by kernel_rfl) (by kernel_rfl) (by kernel_rfl) (by kernel_rfl) (by kernel_rfl) rfl (fun _ _ _ h => h) (Or.inl ⟨rfl, ?_⟩) H0 ?_
    rotate_left
    · intro W hW; have hW := HS.out W hW; go_simp; try with_reducible rfl
    simp only [put_list, List.set]
    refine Drawn.take 6 (some 21) (v := ?_) rfl rfl (by kernel_rfl) (by kernel_rfl) (by kernel_rfl) (by kernel_rfl) (by kernel_rfl) rfl (fun _ _ _ h => h) (Or.inl ⟨rfl, ?_⟩) H0 ?_
    rotate_left
    · intro W hW; have hW := HS.out W hW; go_simp; try with_reducible rfl
    simp only [put_list, List.set]
    refine Drawn.take 7 (some 22) (v := .bool true) rfl rfl (by kernel_rfl) (by kernel_rfl) (by kernel_rfl) (by kernel_rfl) (by kernel_rfl) rfl (fun _ _ _ h => h) (Or.inl ⟨rfl, ?_⟩) H0 ?_
    · intro W hW; have hW := HS.out W hW; go_simp <;> (try simp) <;> (try omega)
    simp only [put_list, List.set]
    refine Drawn.take 8 (some 23) (v := ?_) rfl rfl (by kernel_rfl) (by kernel_rfl) (by kernel_rfl) (by kernel_rfl) (by kernel_rfl) rfl (fun _ _ _ h => h) (Or.inl ⟨rfl, ?_⟩) H0 ?_
    rotate_left
    · intro W hW; have hW := HS.out W hW; go_simp; try with_reducible rfl
    simp only [put_list, List.set]
    refine Drawn.take 9 (some 24) (v := ?_) rfl rfl (by kernel_rfl) (by kernel_rfl) (by kernel_rfl) (by kernel_rfl) (by kernel_rfl) rfl (fun _ _ _ h => h) (Or.inl ⟨rfl, ?_⟩) H0 ?_
    rotate_left
    · intro W hW; have hW := HS.out W hW; go_simp; try with_reducible rfl
    simp only [put_list, List.set]
    refine Drawn.take 10 (some 25) (v := ?_) rfl rfl (by kernel_rfl) (by kernel_rfl) (by kernel_rfl) (by kernel_rfl) (by kernel_rfl) rfl (fun _ _ _ h => h) (Or.inl ⟨rfl, ?_⟩) H0 ?_
    rotate_left
    · intro W hW; have hW := HS.out W hW; go_simp; try with_reducible rfl
    simp only [put_list, List.set]
    refine Drawn.take 11 (some 26) (v := ?_) rfl rfl (by kernel_rfl) (by kernel_rfl) (by kernel_rfl) (by kernel_rfl) (by kernel_rfl) rfl (fun _ _ _ h => h) (Or.inl ⟨rfl, ?_⟩) H0 ?_
    rotate_left
    · intro W hW; have hW := HS.out W hW; go_simp; try with_reducible rfl
    simp only [put_list, List.set]
    refine Drawn.take 12 (some 27) (v := ?_) rfl rfl (by kernel_rfl) (by kernel_rfl) (by kernel_rfl) (by kernel_rfl) (by kernel_rfl) rfl (fun _ _ _ h => h) (Or.inl ⟨rfl, ?_⟩) H0 ?_
    rotate_left
    · intro W hW; have hW := HS.out W hW; go_simp; try with_reducible rfl
    simp only [put_list, List.set]
    refine Drawn.take 14 (some 29) (v := ?_) rfl rfl (by kernel_rfl) (by kernel_rfl) (by kernel_rfl) (by kernel_rfl) (by kernel_rfl) rfl (fun _ _ _ h => h) (Or.inl ⟨rfl, ?_⟩) H0 ?_
    rotate_left
    · intro W hW; have hW := HS.out W hW; go_simp; try with_reducible rfl
    simp only [put_list, List.set]
    refine Drawn.take 16 (some 31) (v := ?_) rfl rfl (by kernel_rfl) (by kernel_rfl) (by kernel_rfl) (by kernel_rfl) (by kernel_rfl) rfl (fun _ _ _ h => h) (Or.inl ⟨rfl, ?_⟩) H0 ?_
    rotate_left
    · intro W hW; have hW := HS.out W hW; go_simp; try with_reducible rfl
    simp only [put_list, List.set]
    refine Drawn.only 13 (by kernel_rfl) rfl rfl (fun K hK => ?_)
    go_simp
    refine (from_any e _).mono ?_
    rintro e w9 ⟨rfl, hb⟩
    refine hK _ _ (fun _ _ => H0.call hb) ?_
    replace H0 := H0.call hb
    clear hK K hb
    refine Drawn.only 15 (by kernel_rfl) rfl rfl (fun K hK => ?_)
    go_simp
    refine (Shr_d (dig_small HEM.out) HA.out _).mono ?_
    rintro e w9 ⟨p153, p152, p151, p150, rfl, hd, hb⟩
    refine hK _ _ (fun _ _ => H0.call hb) ?_
    replace H0 := H0.call hb
    clear hK K hb
    have D15 := Lib.hid hd
    clear hd
    obtain ⟨rfl, rfl, rfl, rfl⟩ := Dig.same D15.out dig_zero (HMv.out)
    refine Drawn.take 17 (some 32) (v := ?_) rfl rfl (by kernel_rfl) (by kernel_rfl) (by kernel_rfl) (by kernel_rfl) (by kernel_rfl) rfl (fun _ _ _ h => h) (Or.inl ⟨rfl, ?_⟩) H0 ?_
    rotate_left
    · intro W hW; have hW := HS.out W hW; go_simp; try with_reducible rfl
    simp only [put_list, List.set]
    refine Drawn.take 18 (some 33) (v := ?_) rfl rfl (by kernel_rfl) (by kernel_rfl) (by kernel_rfl) (by kernel_rfl) (by kernel_rfl) rfl (fun _ _ _ h => h) (Or.inl ⟨rfl, ?_⟩) H0 ?_
    rotate_left
    · intro W hW; have hW := HS.out W hW; go_simp; try with_reducible rfl
    simp only [put_list, List.set]
    refine Drawn.take 19 (some 34) (v := ?_) rfl rfl (by kernel_rfl) (by kernel_rfl) (by kernel_rfl) (by kernel_rfl) (by kernel_rfl) rfl (fun _ _ _ h => h) (Or.inl ⟨rfl, ?_⟩) H0 ?_
    rotate_left
    · intro W hW; have hW := HS.out W hW; go_simp; try with_reducible rfl
    simp only [put_list, List.set]
    refine Drawn.take 20 (some 35) (v := ?_) rfl rfl (by kernel_rfl) (by kernel_rfl) (by kernel_rfl) (by kernel_rfl) (by kernel_rfl) rfl (fun _ _ _ h => h) (Or.inl ⟨rfl, ?_⟩) H0 ?_
    rotate_left
    · intro W hW; have hW := HS.out W hW; go_simp; try with_reducible rfl
    simp only [put_list, List.set]
    refine Drawn.take 21 (some 36) (v := .bool false) rfl rfl (by kernel_rfl) (by kernel_rfl) (by kernel_rfl) (by kernel_rfl) (by kernel_rfl) rfl (fun _ _ _ h => h) (Or.inl ⟨rfl, ?_⟩) H0 ?_
    · intro W hW; have hW := HS.out W hW; go_simp <;> (try simp) <;> (try omega)
    simp only [put_list, List.set]
    refine Drawn.take 22 (some 37) (v := ?_) rfl rfl (by kernel_rfl) (by kernel_rfl) (by kernel_rfl) (by kernel_rfl) (by kernel_rfl) rfl (fun _ _ _ h => h) (Or.inl ⟨rfl, ?_⟩) H0 ?_
    rotate_left
    · intro W hW; have hW := HS.out W hW; go_simp; try with_reducible rfl
    simp only [put_list, List.set]
    refine Drawn.take 23 (some 38) (v := ?_) rfl rfl (by kernel_rfl) (by kernel_rfl) (by kernel_rfl) (by kernel_rfl) (by kernel_rfl) rfl (fun _ _ _ h => h) (Or.inl ⟨rfl, ?_⟩) H0 ?_
    rotate_left
    · intro W hW; have hW := HS.out W hW; go_simp; try with_reducible rfl
    simp only [put_list, List.set]
    refine Drawn.take 24 (some 39) (v := ?_) rfl rfl (by kernel_rfl) (by kernel_rfl) (by kernel_rfl) (by kernel_rfl) (by kernel_rfl) rfl (fun _ _ _ h => h) (Or.inl ⟨rfl, ?_⟩) H0 ?_
    rotate_left
    · intro W hW; have hW := HS.out W hW; go_simp; try with_reducible rfl
    simp only [put_list, List.set]
    refine Drawn.take 25 (some 40) (v := ?_) rfl rfl (by kernel_rfl) (by kernel_rfl) (by kernel_rfl) (by kernel_rfl) (by kernel_rfl) rfl (fun _ _ _ h => h) (Or.inl ⟨rfl, ?_⟩) H0 ?_
    rotate_left
    · intro W hW; have hW := HS.out W hW; go_simp; try with_reducible rfl
    simp only [put_list, List.set]
    refine Drawn.take 26 (some 41) (v := ?_) rfl rfl (by kernel_rfl) (by kernel_rfl) (by kernel_rfl) (by kernel_rfl) (by kernel_rfl) rfl (fun _ _ _ h => h) (Or.inl ⟨rfl, ?_⟩) H0 ?_
    rotate_left
    · intro W hW; have hW := HS.out W hW; go_simp; try with_reducible rfl
    simp only [put_list, List.set]
    refine Drawn.take 28 (some 43) (v := ?_) rfl rfl (by kernel_rfl) (by kernel_rfl) (by kernel_rfl) (by kernel_rfl) (by kernel_rfl) rfl (fun _ _ _ h => h) (Or.inl ⟨rfl, ?_⟩) H0 ?_
    rotate_left
    · intro W hW; have hW := HS.out W hW; go_simp; try with_reducible rfl
    simp only [put_list, List.set]
    refine Drawn.take 30 (some 45) (v := ?_) rfl rfl (by kernel_rfl) (by kernel_rfl) (by kernel_rfl) (by kernel_rfl) (by kernel_rfl) rfl (fun _ _ _ h => h) (Or.inl ⟨rfl, ?_⟩) H0 ?_
    rotate_left
    · intro W hW; have hW := HS.out W hW; go_simp; try with_reducible rfl
    simp only [put_list, List.set]
    refine Drawn.only 27 (by kernel_rfl) rfl rfl (fun K hK => ?_)
    go_simp
    refine (from_any f _).mono ?_
    rintro e w9 ⟨rfl, hb⟩
    refine hK _ _ (fun _ _ => H0.call hb) ?_
    replace H0 := H0.call hb
    clear hK K hb
    refine Drawn.only 29 (by kernel_rfl) rfl rfl (fun K hK => ?_)
    go_simp
    refine (Shr_d (dig_small HFM.out) HA.out _).mono ?_
    rintro e w9 ⟨p293, p292, p291, p290, rfl, hd, hb⟩
    refine hK _ _ (fun _ _ => H0.call hb) ?_
    replace H0 := H0.call hb
    clear hK K hb
    have D29 := Lib.hid hd
    clear hd
    have hN := fun W => neq_word D29.out dig_zero HSt.out W
    simp only [Int.natCast_zero] at hN
    refine Drawn.take 31 (some 46) (v := ?_) rfl rfl (by kernel_rfl) (by kernel_rfl) (by kernel_rfl) (by kernel_rfl) (by kernel_rfl) rfl (fun _ _ _ h => h) (Or.inl ⟨rfl, ?_⟩) H0 ?_
    rotate_left
    · intro W hW; have hW := HS.out W hW; go_simp; try with_reducible rfl
    simp only [put_list, List.set]
    clear hN
    refine Drawn.take 32 (some 47) (v := ?_) rfl rfl (by kernel_rfl) (by kernel_rfl) (by kernel_rfl) (by kernel_rfl) (by kernel_rfl) rfl (fun _ _ _ h => h) (Or.inl ⟨rfl, ?_⟩) H0 ?_
    rotate_left
    · intro W hW; have hW := HS.out W hW; go_simp; try with_reducible rfl
    simp only [put_list, List.set]
    refine Drawn.take 33 (some 48) (v := ?_) rfl rfl (by kernel_rfl) (by kernel_rfl) (by kernel_rfl) (by kernel_rfl) (by kernel_rfl) rfl (fun _ _ _ h => h) (Or.inl ⟨rfl, ?_⟩) H0 ?_
    rotate_left
    · intro W hW; have hW := HS.out W hW; go_simp; try with_reducible rfl
    simp only [put_list, List.set]
    refine Drawn.take 34 (some 49) (v := ?_) rfl rfl (by kernel_rfl) (by kernel_rfl) (by kernel_rfl) (by kernel_rfl) (by kernel_rfl) rfl (fun _ _ _ h => h) (Or.inl ⟨rfl, ?_⟩) H0 ?_
    rotate_left
    · intro W hW; have hW := HS.out W hW; go_simp; try with_reducible rfl
    simp only [put_list, List.set]
    refine Drawn.take 35 (some 50) (v := ?_) rfl rfl (by kernel_rfl) (by kernel_rfl) (by kernel_rfl) (by kernel_rfl) (by kernel_rfl) rfl (fun _ _ _ h => h) (Or.inl ⟨rfl, ?_⟩) H0 ?_
    rotate_left
    · intro W hW; have hW := HS.out W hW; go_simp; try with_reducible rfl
    simp only [put_list, List.set]
    refine Drawn.take 36 (some 51) (v := ?_) rfl rfl (by kernel_rfl) (by kernel_rfl) (by kernel_rfl) (by kernel_rfl) (by kernel_rfl) rfl (fun _ _ _ h => h) (Or.inl ⟨rfl, ?_⟩) H0 ?_
    rotate_left
    · intro W hW; have hW := HS.out W hW; go_simp; try with_reducible rfl
    simp only [put_list, List.set]
    refine Drawn.take 37 (some 52) (v := .bool false) rfl rfl (by kernel_rfl) (by kernel_rfl) (by kernel_rfl) (by kernel_rfl) (by kernel_rfl) rfl (fun _ _ _ h => h) (Or.inl ⟨rfl, ?_⟩) H0 ?_
    · intro W hW; have hW := HS.out W hW; go_simp <;> (try simp) <;> (try omega)
    simp only [put_list, List.set]
    refine Drawn.take 38 (some 53) (v := ?_) rfl rfl (by kernel_rfl) (by kernel_rfl) (by kernel_rfl) (by kernel_rfl) (by kernel_rfl) rfl (fun _ _ _ h => h) (Or.inl ⟨rfl, ?_⟩) H0 ?_
    rotate_left
    · intro W hW; have hW := HS.out W hW; go_simp; try with_reducible rfl
    simp only [put_list, List.set]
    refine Drawn.take 39 (some 54) (v := ?_) rfl rfl (by kernel_rfl) (by kernel_rfl) (by kernel_rfl) (by kernel_rfl) (by kernel_rfl) rfl (fun _ _ _ h => h) (Or.inl ⟨rfl, ?_⟩) H0 ?_
    rotate_left
    · intro W hW; have hW := HS.out W hW; go_simp; try with_reducible rfl
    simp only [put_list, List.set]
    refine Drawn.take 40 (some 55) (v := ?_) rfl rfl (by kernel_rfl) (by kernel_rfl) (by kernel_rfl) (by kernel_rfl) (by kernel_rfl) rfl (fun _ _ _ h => h) (Or.inl ⟨rfl, ?_⟩) H0 ?_
    rotate_left
    · intro W hW; have hW := HS.out W hW; go_simp; try with_reducible rfl
    simp only [put_list, List.set]
    refine Drawn.only 41 (by kernel_rfl) rfl rfl (fun K hK => ?_)
    go_simp
    refine (Less_true HA.out HB.out HLT.out _).mono ?_
    rintro e w9 ⟨rfl, hb⟩
    refine hK _ _ (fun _ _ => H0.call hb) ?_
    replace H0 := H0.call hb
    clear hK K hb
    refine Drawn.take 42 (some 57) (v := ?_) rfl rfl (by kernel_rfl) (by kernel_rfl) (by kernel_rfl) (by kernel_rfl) (by kernel_rfl) rfl (fun _ _ _ h => h) (Or.inl ⟨rfl, ?_⟩) H0 ?_
    rotate_left
    · intro W hW; have hW := HS.out W hW; go_simp; try with_reducible rfl
    simp only [put_list, List.set]
    refine Drawn.take 43 (some 58) (v := ?_) rfl rfl (by kernel_rfl) (by kernel_rfl) (by kernel_rfl) (by kernel_rfl) (by kernel_rfl) rfl (fun _ _ _ h => h) (Or.inl ⟨rfl, ?_⟩) H0 ?_
    rotate_left
    · intro W hW; have hW := HS.out W hW; go_simp; try with_reducible rfl
    simp only [put_list, List.set]
    refine Drawn.take 44 (some 4) (v := ?_) rfl rfl (by kernel_rfl) (by kernel_rfl) (by kernel_rfl) (by kernel_rfl) (by kernel_rfl) rfl (fun _ _ _ h => h) (Or.inl ⟨rfl, ?_⟩) H0 ?_
    rotate_left
    · intro W hW; have hW := HS.out W hW; go_simp; try with_reducible rfl
    simp only [put_list, List.set]
    refine Drawn.done (by kernel_rfl) ?_ _
    go_wp2
    go_ret
    exact ⟨rfl, H0.below⟩
  · skip
    have HSt := Lib.hid (SX.out.stays hn0)
    have hz : ((n : Int) == 0) = false := by simp; omega
    obtain ⟨j, hj⟩ : ∃ j, j = n - 1 := ⟨_, rfl⟩
    rw [← hj] at HSt
    obtain ⟨f, hf⟩ : ∃ f, f = 8 * j := ⟨_, rfl⟩
    rw [← hf] at HSt
    have HFM := Lib.hid (show f < M64 by unfold M64; omega)
    have hw3 : IntKind.i64.wrap ((n : Int) - 1) = (j : Int) := by rw [IntWalk.i64_in _ (by omega)]; omega
    have hw4 : IntKind.i64.wrap (8 * (j : Int)) = (f : Int) := by rw [IntWalk.i64_in _ (by omega)]; omega
    have hw5 : IntKind.u64.wrap (f : Int) = (f : Int) := by rw [IntKind.wrap_u64]; omega
    clear hf hj
    have hg : decide ((m : Int) ≤ (n : Int)) = true := by simp; omega
    have hg' : decide (m ≤ n) = true := by simp; omega
    clear hn0 hge
    refine Drawn.start (Fr w w.heap.size (w.heap.size + 1 + 1) [(w.heap.size + 1, #[.int .u64 b3, .int .u64 b2, .int .u64 b1, .int .u64 b0], 24), (w.heap.size, #[.int .u64 a3, .int .u64 a2, .int .u64 a1, .int .u64 a0], 24)]) (fun _ => false) (by kernel_rfl) ?_
    refine Drawn.take 0 (some 15) (v := ?_) rfl rfl (by kernel_rfl) (by kernel_rfl) (by kernel_rfl) (by kernel_rfl) (by kernel_rfl) rfl (fun _ _ _ h => h) (Or.inl ⟨rfl, ?_⟩) H0 ?_
    rotate_left
    · intro W hW; have hW := HS.out W hW; go_simp; try with_reducible rfl
    simp only [put_list, List.set]
    refine Drawn.take 1 (some 16) (v := ?_) rfl rfl (by kernel_rfl) (by kernel_rfl) (by kernel_rfl) (by kernel_rfl) (by kernel_rfl) rfl (fun _ _ _ h => h) (Or.inl ⟨rfl, ?_⟩) H0 ?_
    rotate_left
    · intro W hW; have hW := HS.out W hW; go_simp; try with_reducible rfl
    simp only [put_list, List.set]
    refine Drawn.take 2 (some 17) (v := ?_) rfl rfl (by kernel_rfl) (by kernel_rfl) (by kernel_rfl) (by kernel_rfl) (by kernel_rfl) rfl (fun _ _ _ h => h) (Or.inl ⟨rfl, ?_⟩) H0 ?_
    rotate_left
    · intro W hW; have hW := HS.out W hW; go_simp; try with_reducible rfl
    simp only [put_list, List.set]
    refine Drawn.take 3 (some 18) (v := .bool true) rfl rfl (by kernel_rfl) (by kernel_rfl) (by kernel_rfl) (by kernel_rfl) (by kernel_rfl) rfl (fun _ _ _ h => h) (Or.inl ⟨rfl, ?_⟩) H0 ?_
    · intro W hW; have hW := HS.out W hW; go_simp <;> (try simp) <;> (try omega)
    simp only [put_list, List.set]
    refine Drawn.take 4 (some 19) (v := ?_) rfl rfl (by kernel_rfl) (by kernel_rfl) (by kernel_rfl) (by kernel_rfl) (by kernel_rfl) rfl (fun _ _ _ h => h) (Or.inl ⟨rfl, ?_⟩) H0 ?_
    rotate_left
    · intro W hW; have hW := HS.out W hW; go_simp; try with_reducible rfl
    simp only [put_list, List.set]
    refine Drawn.take 5 (some 20) (v := ?_) rfl rfl (by kernel_rfl) (by kernel_rfl) (by kernel_rfl) (by kernel_rfl) (by kernel_rfl) rfl (fun _ _ _ h => h) (Or.inl ⟨rfl, ?_⟩) H0 ?_
    rotate_left
    · intro W hW; have hW := HS.out W hW; go_simp; try with_reducible rfl
    simp only [put_list, List.set]
    refine Drawn.take 6 (some 21) (v := ?_) rfl rfl (by kernel_rfl) (by kernel_rfl) (by kernel_rfl) (by kernel_rfl) (by kernel_rfl) rfl (fun _ _ _ h => h) (Or.inl ⟨rfl, ?_⟩) H0 ?_
    rotate_left
    · intro W hW; have hW := HS.out W hW; go_simp; try with_reducible rfl
    simp only [put_list, List.set]
    refine Drawn.take 7 (some 22) (v := .bool true) rfl rfl (by kernel_rfl) (by kernel_rfl) (by kernel_rfl) (by kernel_rfl) (by kernel_rfl) rfl (fun _ _ _ h => h) (Or.inl ⟨rfl, ?_⟩) H0 ?_
    · intro W hW; have hW := HS.out W hW; go_simp <;> (try simp) <;> (try omega)
    simp only [put_list, List.set]
    refine Drawn.take 8 (some 23) (v := ?_) rfl rfl (by kernel_rfl) (by kernel_rfl) (by kernel_rfl) (by kernel_rfl) (by kernel_rfl) rfl (fun _ _ _ h => h) (Or.inl ⟨rfl, ?_⟩) H0 ?_
    rotate_left
    · intro W hW; have hW := HS.out W hW; go_simp; try with_reducible rfl
    simp only [put_list, List.set]
    refine Drawn.take 9 (some 24) (v := ?_) rfl rfl (by kernel_rfl) (by kernel_rfl) (by kernel_rfl) (by kernel_rfl) (by kernel_rfl) rfl (fun _ _ _ h => h) (Or.inl ⟨rfl, ?_⟩) H0 ?_
    rotate_left
    · intro W hW; have hW := HS.out W hW; go_simp; try with_reducible rfl
    simp only [put_list, List.set]
    refine Drawn.take 10 (some 25) (v := ?_) rfl rfl (by kernel_rfl) (by kernel_rfl) (by kernel_rfl) (by kernel_rfl) (by kernel_rfl) rfl (fun _ _ _ h => h) (Or.inl ⟨rfl, ?_⟩) H0 ?_
    rotate_left
    · intro W hW; have hW := HS.out W hW; go_simp; try with_reducible rfl
    simp only [put_list, List.set]
    refine Drawn.take 11 (some 26) (v := ?_) rfl rfl (by kernel_rfl) (by kernel_rfl) (by kernel_rfl) (by kernel_rfl) (by kernel_rfl) rfl (fun _ _ _ h => h) (Or.inl ⟨rfl, ?_⟩) H0 ?_
    rotate_left
    · intro W hW; have hW := HS.out W hW; go_simp; try with_reducible rfl
    simp only [put_list, List.set]
    refine Drawn.take 12 (some 27) (v := ?_) rfl rfl (by kernel_rfl) (by kernel_rfl) (by kernel_rfl) (by kernel_rfl) (by kernel_rfl) rfl (fun _ _ _ h => h) (Or.inl ⟨rfl, ?_⟩) H0 ?_
    rotate_left
    · intro W hW; have hW := HS.out W hW; go_simp; try with_reducible rfl
    simp only [put_list, List.set]
    refine Drawn.take 14 (some 29) (v := ?_) rfl rfl (by kernel_rfl) (by kernel_rfl) (by kernel_rfl) (by kernel_rfl) (by kernel_rfl) rfl (fun _ _ _ h => h) (Or.inl ⟨rfl, ?_⟩) H0 ?_
    rotate_left
    · intro W hW; have hW := HS.out W hW; go_simp; try with_reducible rfl
    simp only [put_list, List.set]
    refine Drawn.take 16 (some 31) (v := ?_) rfl rfl (by kernel_rfl) (by kernel_rfl) (by kernel_rfl) (by kernel_rfl) (by kernel_rfl) rfl (fun _ _ _ h => h) (Or.inl ⟨rfl, ?_⟩) H0 ?_
    rotate_left
    · intro W hW; have hW := HS.out W hW; go_simp; try with_reducible rfl
    simp only [put_list, List.set]
    refine Drawn.only 13 (by kernel_rfl) rfl rfl (fun K hK => ?_)
    go_simp
    refine (from_any e _).mono ?_
    rintro e w9 ⟨rfl, hb⟩
    refine hK _ _ (fun _ _ => H0.call hb) ?_
    replace H0 := H0.call hb
    clear hK K hb
    refine Drawn.only 15 (by kernel_rfl) rfl rfl (fun K hK => ?_)
    go_simp
    refine (Shr_d (dig_small HEM.out) HA.out _).mono ?_
    rintro e w9 ⟨p153, p152, p151, p150, rfl, hd, hb⟩
    refine hK _ _ (fun _ _ => H0.call hb) ?_
    replace H0 := H0.call hb
    clear hK K hb
    have D15 := Lib.hid hd
    clear hd
    obtain ⟨rfl, rfl, rfl, rfl⟩ := Dig.same D15.out dig_zero (HMv.out)
    refine Drawn.take 17 (some 32) (v := ?_) rfl rfl (by kernel_rfl) (by kernel_rfl) (by kernel_rfl) (by kernel_rfl) (by kernel_rfl) rfl (fun _ _ _ h => h) (Or.inl ⟨rfl, ?_⟩) H0 ?_
    rotate_left
    · intro W hW; have hW := HS.out W hW; go_simp; try with_reducible rfl
    simp only [put_list, List.set]
    refine Drawn.take 18 (some 33) (v := ?_) rfl rfl (by kernel_rfl) (by kernel_rfl) (by kernel_rfl) (by kernel_rfl) (by kernel_rfl) rfl (fun _ _ _ h => h) (Or.inl ⟨rfl, ?_⟩) H0 ?_
    rotate_left
    · intro W hW; have hW := HS.out W hW; go_simp; try with_reducible rfl
    simp only [put_list, List.set]
    refine Drawn.take 19 (some 34) (v := ?_) rfl rfl (by kernel_rfl) (by kernel_rfl) (by kernel_rfl) (by kernel_rfl) (by kernel_rfl) rfl (fun _ _ _ h => h) (Or.inl ⟨rfl, ?_⟩) H0 ?_
    rotate_left
    · intro W hW; have hW := HS.out W hW; go_simp; try with_reducible rfl
    simp only [put_list, List.set]
    refine Drawn.take 20 (some 35) (v := ?_) rfl rfl (by kernel_rfl) (by kernel_rfl) (by kernel_rfl) (by kernel_rfl) (by kernel_rfl) rfl (fun _ _ _ h => h) (Or.inl ⟨rfl, ?_⟩) H0 ?_
    rotate_left
    · intro W hW; have hW := HS.out W hW; go_simp; try with_reducible rfl
    simp only [put_list, List.set]
    refine Drawn.take 21 (some 36) (v := .bool false) rfl rfl (by kernel_rfl) (by kernel_rfl) (by kernel_rfl) (by kernel_rfl) (by kernel_rfl) rfl (fun _ _ _ h => h) (Or.inl ⟨rfl, ?_⟩) H0 ?_
    · intro W hW; have hW := HS.out W hW; go_simp <;> (try simp) <;> (try omega)
    simp only [put_list, List.set]
    refine Drawn.take 22 (some 37) (v := ?_) rfl rfl (by kernel_rfl) (by kernel_rfl) (by kernel_rfl) (by kernel_rfl) (by kernel_rfl) rfl (fun _ _ _ h => h) (Or.inl ⟨rfl, ?_⟩) H0 ?_
    rotate_left
    · intro W hW; have hW := HS.out W hW; go_simp; try with_reducible rfl
    simp only [put_list, List.set]
    refine Drawn.take 23 (some 38) (v := ?_) rfl rfl (by kernel_rfl) (by kernel_rfl) (by kernel_rfl) (by kernel_rfl) (by kernel_rfl) rfl (fun _ _ _ h => h) (Or.inl ⟨rfl, ?_⟩) H0 ?_
    rotate_left
    · intro W hW; have hW := HS.out W hW; go_simp; try with_reducible rfl
    simp only [put_list, List.set]
    refine Drawn.take 24 (some 39) (v := ?_) rfl rfl (by kernel_rfl) (by kernel_rfl) (by kernel_rfl) (by kernel_rfl) (by kernel_rfl) rfl (fun _ _ _ h => h) (Or.inl ⟨rfl, ?_⟩) H0 ?_
    rotate_left
    · intro W hW; have hW := HS.out W hW; go_simp; try with_reducible rfl
    simp only [put_list, List.set]
    refine Drawn.take 25 (some 40) (v := ?_) rfl rfl (by kernel_rfl) (by kernel_rfl) (by kernel_rfl) (by kernel_rfl) (by kernel_rfl) rfl (fun _ _ _ h => h) (Or.inl ⟨rfl, ?_⟩) H0 ?_
    rotate_left
    · intro W hW; have hW := HS.out W hW; go_simp; try with_reducible rfl
    simp only [put_list, List.set]
    refine Drawn.take 26 (some 41) (v := ?_) rfl rfl (by kernel_rfl) (by kernel_rfl) (by kernel_rfl) (by kernel_rfl) (by kernel_rfl) rfl (fun _ _ _ h => h) (Or.inl ⟨rfl, ?_⟩) H0 ?_
    rotate_left
    · intro W hW; have hW := HS.out W hW; go_simp; try with_reducible rfl
    simp only [put_list, List.set]
    refine Drawn.take 28 (some 43) (v := ?_) rfl rfl (by kernel_rfl) (by kernel_rfl) (by kernel_rfl) (by kernel_rfl) (by kernel_rfl) rfl (fun _ _ _ h => h) (Or.inl ⟨rfl, ?_⟩) H0 ?_
    rotate_left
    · intro W hW; have hW := HS.out W hW; go_simp; try with_reducible rfl
    simp only [put_list, List.set]
    refine Drawn.take 30 (some 45) (v := ?_) rfl rfl (by kernel_rfl) (by kernel_rfl) (by kernel_rfl) (by kernel_rfl) (by kernel_rfl) rfl (fun _ _ _ h => h) (Or.inl ⟨rfl, ?_⟩) H0 ?_
    rotate_left
    · intro W hW; have hW := HS.out W hW; go_simp; try with_reducible rfl
    simp only [put_list, List.set]
    refine Drawn.only 27 (by kernel_rfl) rfl rfl (fun K hK => ?_)
    go_simp
    refine (from_any f _).mono ?_
    rintro e w9 ⟨rfl, hb⟩
    refine hK _ _ (fun _ _ => H0.call hb) ?_
    replace H0 := H0.call hb
    clear hK K hb
    refine Drawn.only 29 (by kernel_rfl) rfl rfl (fun K hK => ?_)
    go_simp
    refine (Shr_d (dig_small HFM.out) HA.out _).mono ?_
    rintro e w9 ⟨p293, p292, p291, p290, rfl, hd, hb⟩
    refine hK _ _ (fun _ _ => H0.call hb) ?_
    replace H0 := H0.call hb
    clear hK K hb
    have D29 := Lib.hid hd
    clear hd
    have hN := fun W => neq_word D29.out dig_zero HSt.out W
    simp only [Int.natCast_zero] at hN
    refine Drawn.take 31 (some 46) (v := ?_) rfl rfl (by kernel_rfl) (by kernel_rfl) (by kernel_rfl) (by kernel_rfl) (by kernel_rfl) rfl (fun _ _ _ h => h) (Or.inl ⟨rfl, ?_⟩) H0 ?_
    rotate_left
    · intro W hW; have hW := HS.out W hW; go_simp; try with_reducible rfl
    simp only [put_list, List.set]
    clear hN
    refine Drawn.take 32 (some 47) (v := ?_) rfl rfl (by kernel_rfl) (by kernel_rfl) (by kernel_rfl) (by kernel_rfl) (by kernel_rfl) rfl (fun _ _ _ h => h) (Or.inl ⟨rfl, ?_⟩) H0 ?_
    rotate_left
    · intro W hW; have hW := HS.out W hW; go_simp; try with_reducible rfl
    simp only [put_list, List.set]
    refine Drawn.take 33 (some 48) (v := ?_) rfl rfl (by kernel_rfl) (by kernel_rfl) (by kernel_rfl) (by kernel_rfl) (by kernel_rfl) rfl (fun _ _ _ h => h) (Or.inl ⟨rfl, ?_⟩) H0 ?_
    rotate_left
    · intro W hW; have hW := HS.out W hW; go_simp; try with_reducible rfl
    simp only [put_list, List.set]
    refine Drawn.take 34 (some 49) (v := ?_) rfl rfl (by kernel_rfl) (by kernel_rfl) (by kernel_rfl) (by kernel_rfl) (by kernel_rfl) rfl (fun _ _ _ h => h) (Or.inl ⟨rfl, ?_⟩) H0 ?_
    rotate_left
    · intro W hW; have hW := HS.out W hW; go_simp; try with_reducible rfl
    simp only [put_list, List.set]
    refine Drawn.take 35 (some 50) (v := ?_) rfl rfl (by kernel_rfl) (by kernel_rfl) (by kernel_rfl) (by kernel_rfl) (by kernel_rfl) rfl (fun _ _ _ h => h) (Or.inl ⟨rfl, ?_⟩) H0 ?_
    rotate_left
    · intro W hW; have hW := HS.out W hW; go_simp; try with_reducible rfl
    simp only [put_list, List.set]
    refine Drawn.take 36 (some 51) (v := ?_) rfl rfl (by kernel_rfl) (by kernel_rfl) (by kernel_rfl) (by kernel_rfl) (by kernel_rfl) rfl (fun _ _ _ h => h) (Or.inl ⟨rfl, ?_⟩) H0 ?_
    rotate_left
    · intro W hW; have hW := HS.out W hW; go_simp; try with_reducible rfl
    simp only [put_list, List.set]
    refine Drawn.take 37 (some 52) (v := .bool true) rfl rfl (by kernel_rfl) (by kernel_rfl) (by kernel_rfl) (by kernel_rfl) (by kernel_rfl) rfl (fun _ _ _ h => h) (Or.inl ⟨rfl, ?_⟩) H0 ?_
    · intro W hW; have hW := HS.out W hW; go_simp <;> (try simp) <;> (try omega)
    simp only [put_list, List.set]
    refine Drawn.take 38 (some 53) (v := ?_) rfl rfl (by kernel_rfl) (by kernel_rfl) (by kernel_rfl) (by kernel_rfl) (by kernel_rfl) rfl (fun _ _ _ h => h) (Or.inl ⟨rfl, ?_⟩) H0 ?_
    rotate_left
    · intro W hW; have hW := HS.out W hW; go_simp; try with_reducible rfl
    simp only [put_list, List.set]
    refine Drawn.take 39 (some 54) (v := undef) rfl rfl (by kernel_rfl) (by kernel_rfl) (by kernel_rfl) (by kernel_rfl) (by kernel_rfl) rfl (fun _ _ _ h => h) (Or.inr ⟨rfl, rfl⟩) H0 ?_
    simp only [put_list, List.set]
    refine Drawn.take 40 (some 55) (v := undef) rfl rfl (by kernel_rfl) (by kernel_rfl) (by kernel_rfl) (by kernel_rfl) (by kernel_rfl) rfl (fun _ _ _ h => h) (Or.inr ⟨rfl, rfl⟩) H0 ?_
    simp only [put_list, List.set]
    refine Drawn.take 41 (some 56) (v := undef) rfl rfl (by kernel_rfl) (by kernel_rfl) (by kernel_rfl) (by kernel_rfl) (by kernel_rfl) rfl (fun _ _ _ h => h) (Or.inr ⟨rfl, rfl⟩) H0 ?_
    simp only [put_list, List.set]
    refine Drawn.take 42 (some 57) (v := ?_) rfl rfl (by kernel_rfl) (by kernel_rfl) (by kernel_rfl) (by kernel_rfl) (by kernel_rfl) rfl (fun _ _ _ h => h) (Or.inl ⟨rfl, ?_⟩) H0 ?_
    rotate_left
    · intro W hW; have hW := HS.out W hW; go_simp; try with_reducible rfl
    simp only [put_list, List.set]
    refine Drawn.take 43 (some 58) (v := ?_) rfl rfl (by kernel_rfl) (by kernel_rfl) (by kernel_rfl) (by kernel_rfl) (by kernel_rfl) rfl (fun _ _ _ h => h) (Or.inl ⟨rfl, ?_⟩) H0 ?_
    rotate_left
    · intro W hW; have hW := HS.out W hW; go_simp; try with_reducible rfl
    simp only [put_list, List.set]
    refine Drawn.take 44 (some 4) (v := ?_) rfl rfl (by kernel_rfl) (by kernel_rfl) (by kernel_rfl) (by kernel_rfl) (by kernel_rfl) rfl (fun _ _ _ h => h) (Or.inl ⟨rfl, ?_⟩) H0 ?_
    rotate_left
    · intro W hW; have hW := HS.out W hW; go_simp; try with_reducible rfl
    simp only [put_list, List.set]
    refine Drawn.done (by kernel_rfl) ?_ _
    go_wp2
    go_ret
    exact ⟨rfl, H0.below⟩


end Go.Proofs.Ythbfhfgmanafpaa
