/- Merged: Vzb. -/
import Derived.Test.YtbhijjegkpjkcaaW18
section
namespace Go.Proofs.Ytbhijjegkpjkcaa
open Go.RowKit

theorem req_reply (r : ReplyP) (w : World) : (binOp .eql 45 (replyV r) (replyV r)).run Try.prog w = .ok (.bool true) w := by
  have u3 := Try.underlying22
  have a3' := Try.isAgg22
  have z3 := Try.sizeOf22
  have u9 := Try.underlying9
  have a9 := Try.isAgg9
  have z9 := Try.sizeOf9
  have uW := Try.underlying24
  have aW := Try.isAgg24
  have zW := Try.sizeOf24
  have uA := Try.underlying40
  have aA := Try.isAgg40
  have zA := Try.sizeOf40
  have hS : Try.prog.underlying 45 = some (.struct (Try.prog.fieldsOf 45)) := by kernel_rfl
  have hp : Try.prog.stoodInHeld 45 = false := by kernel_rfl
  have hSA : Try.prog.underlying 40 = some (.struct (Try.prog.fieldsOf 40)) := by kernel_rfl
  have hpA : Try.prog.stoodInHeld 40 = false := by kernel_rfl
  have hSW : Try.prog.underlying 24 = some (.struct (Try.prog.fieldsOf 24)) := by kernel_rfl
  have hpW : Try.prog.stoodInHeld 24 = false := by kernel_rfl
  unfold replyV
  rw [run_eql_struct, show (10000 : Nat) = 9999 + 1 from rfl, run_equalIn_agg w 9999 45 _ _ hS hp]
  simp only [Program.fieldsOf, Try.underlying45]
  go_simp
set_option maxRecDepth 100000 in
theorem refReply_c (a : ReplyP) (w : World) : Calls Try.prog 16 #[replyV a] w fun e w' => e = .returned (replyV a) ∧ Below w.heap.size w w' := by
  have h0 : Below w.heap.size w ((w.alloc (.cells (replyCells a) 42)).alloc (.cells (replyCells a) 45)) := ((Below.refl _ _).alloc (Nat.le_refl _) _).alloc (by simp) _
  have h1 := heap_alloc2_new w (.cells (replyCells a) 42) (.cells (replyCells a) 45)
  have h2 : ((w.alloc (.cells (replyCells a) 42)).alloc (.cells #[.int .u64 0, .int .u64 0, .int .u64 0, .int .u64 0, .int .u64 0, .int .u64 0, .string ⟨#[]⟩, .int .u64 0, .int .u64 0, .int .u64 0, .int .u64 0] 45)).heap[w.heap.size]? = some (.cells (replyCells a) 42 (0, 0)) := heap_alloc2_old w _ _
  have h3 := heap_alloc2_new w (.cells (replyCells a) 42) (.cells #[.int .u64 0, .int .u64 0, .int .u64 0, .int .u64 0, .int .u64 0, .int .u64 0, .string ⟨#[]⟩, .int .u64 0, .int .u64 0, .int .u64 0, .int .u64 0] 45)
  unfold replyCells at h0 h1 h2 h3
  have H := Lib.hid (And.intro h0 h1)
  obtain ⟨⟨c0, c1, c2, c3, c4, c5, c6, c7, c8, c9, c10⟩, _⟩ := cells11 h2
  obtain ⟨_, z0, z1, z2, z3, z4, z5, z6, z7, z8, z9, z10⟩ := cells11 h3
  clear h0 h1 h2 h3
  unfold replyV
  go_enter Try.func16, Try.ntmps16
  go_wp2_with fail
  exact bodyPost_ret (results_cell_row Try.results16 _ _ _ _ _ _ _ rfl H.out.2 Try.underlying45 rfl (by kernel_rfl)) rfl ⟨rfl, H.out.1⟩
theorem replyO_eq (o : Option ReplyP) : replyO o = .tuple #[replyV (o.getD ReplyP.zero), .bool o.isSome] := by
  cases o with
  | some a => rfl
  | none =>
    show replyO none = .tuple #[replyV ReplyP.zero, .bool false]
    unfold replyO replyV ReplyP.zero
    simp [lim_zero]
    rfl
set_option maxRecDepth 100000 in
set_option maxHeartbeats 8000000 in
theorem renc_nil (kind : Int) (a : ReplyP) : a.enc kind ≠ [] := fun h => by have := congrArg List.length h; rw [reply_len] at this; simp at this
set_option maxRecDepth 100000 in
set_option maxHeartbeats 8000000 in
theorem replies_c (kind other : Int) {a : ReplyP} (hw : a.Wf) (s : List UInt8) (own : Bool) (at3 : Int) (hat : -9223372036854775808 ≤ at3 ∧ at3 ≤ 9223372036854775807) (by4 : Nat) (hby : by4 < 256) (w : World) :
    Calls Try.prog 4 #[.int .i64 kind, .int .i64 other, replyV a, .string (str s), .bool own, .int .i64 at3, .int .u8 by4] w fun e w' => e = .returned (.bool true) ∧ Below w.heap.size w w' := by
  have C1 := Lib.hid (fun V => putReply_c kind hw V)
  have C2 := Lib.hid (fun V => rputReply_c kind hw V)
  have C3 := Lib.hid (fun V => refReply_c a V)
  have hel := Lib.hid (fun (h : a.Ok kind) => show (a.enc kind).length ≤ 24707 by rw [reply_len]; have := ReplyP.body_len hw h; omega)
  have K0 := Lib.hid ((Kb.start w).box #[.int .u64 a.id, .int .u64 a.nonce, .int .u64 (l3 a.bal : Nat), .int .u64 (l2 a.bal : Nat), .int .u64 (l1 a.bal : Nat), .int .u64 (l0 a.bal : Nat), .string (str a.code), .int .u64 (l3 a.value : Nat), .int .u64 (l2 a.value : Nat), .int .u64 (l1 a.value : Nat), .int .u64 (l0 a.value : Nat)] 42)
  have HAT := Lib.hid hat
  have HBY := Lib.hid hby
  clear hw hat hby
  unfold replyV at *
  go_enter Try.func4, Try.ntmps4
  go_wp2_with fail
  refine (examples_c _).mono ?_
  rintro e w1 ⟨rfl, hb⟩
  have K1 := Lib.hid (K0.out.call hb)
  clear hb K0
  obtain ⟨⟨c0, c1, c2, c3, c4, c5, c6, c7, c8, c9, c10⟩, _⟩ := cells11 (K1.out.get (.head _))
  go_wp2_with fail
  refine (C1.out _).mono ?_
  rintro e w2 ⟨rfl, hb⟩
  have K2 := Lib.hid (K1.out.call hb)
  clear hb K1 c0 c1 c2 c3 c4 c5 c6 c7 c8 c9 c10 C1
  obtain ⟨⟨c0, c1, c2, c3, c4, c5, c6, c7, c8, c9, c10⟩, _⟩ := cells11 (K2.out.get (.head _))
  by_cases hok : (a.Ok kind)
  · rw [putReplyV_ok hok] at C2 ⊢
    have hemp : (a.enc kind) ≠ [] := renc_nil kind a
    go_wp2_with fail
    refine (C3.out _).mono ?_
    rintro e w3 ⟨rfl, hb⟩
    have K3 := Lib.hid (K2.out.call hb)
    clear hb K2 c0 c1 c2 c3 c4 c5 c6 c7 c8 c9 c10 C3
    go_wp2_with fail
    refine (C2.out _).mono ?_
    rintro e w4 ⟨rfl, hb⟩
    have K4 := Lib.hid (K3.out.call hb)
    clear hb K3 C2
    have hne : ((str (a.enc kind)).toList.isEmpty) = false := by
      rw [show (str (a.enc kind)).toList = (a.enc kind) by rw [ByteArray.toList_eq]; simp [str]]
      cases h : (a.enc kind) with
      | nil => exact absurd h hemp
      | cons x y => rfl
    cases own
    · clear hne
      have HD1 := Lib.hid (fun V => getReply_c other s V)
      have HD2 := Lib.hid (fun V => rgetReply_c other s V)
      go_wp2_with fail
      refine (HD1.out _).mono ?_
      rintro e w5 ⟨o, ho, rfl, hb⟩
      rw [replyO_eq]
      obtain ⟨p, hp⟩ : ∃ p, p = o.getD ReplyP.zero := ⟨_, rfl⟩
      obtain ⟨q, hq⟩ : ∃ q, q = o.isSome := ⟨_, rfl⟩
      rw [← hp, ← hq]
      have K5 := Lib.hid ((K4.out.call hb).box #[.int .u64 p.id, .int .u64 p.nonce, .int .u64 (l3 p.bal : Nat), .int .u64 (l2 p.bal : Nat), .int .u64 (l1 p.bal : Nat), .int .u64 (l0 p.bal : Nat), .string (str p.code), .int .u64 (l3 p.value : Nat), .int .u64 (l2 p.value : Nat), .int .u64 (l1 p.value : Nat), .int .u64 (l0 p.value : Nat)] 42)
      have HO := Lib.hid (And.intro ho (And.intro hp hq))
      clear hb K4 ho hp hq HD1
      unfold replyV
      go_wp2_with fail
      refine (HD2.out _).mono ?_
      rintro e w6 ⟨o', ho', rfl, hb⟩
      obtain rfl := HO.out.1.one ho'
      rw [replyO_eq, ← HO.out.2.1, ← HO.out.2.2]
      have K6 := Lib.hid (((K5.out.call hb).box #[.int .u64 p.id, .int .u64 p.nonce, .int .u64 (l3 p.bal : Nat), .int .u64 (l2 p.bal : Nat), .int .u64 (l1 p.bal : Nat), .int .u64 (l0 p.bal : Nat), .string (str p.code), .int .u64 (l3 p.value : Nat), .int .u64 (l2 p.value : Nat), .int .u64 (l1 p.value : Nat), .int .u64 (l0 p.value : Nat)] 45).call (Below.refl _ _).drew)
      clear hb K5 ho' HO HD2
      unfold replyV
      go_wp2_with fail
      generalize w5.heap.size = g5 at *
      generalize w6.heap.size = g6 at *
      have H0 := K6.out
      have HRF := Lib.hid (fun V => refReply_c p V)
      have hre := req_reply p
      unfold replyV at HRF hre
      have HS := Lib.hid (fun (V : World) (hV : Kb w [(g6, #[.int .u64 p.id, .int .u64 p.nonce, .int .u64 (l3 p.bal : Nat), .int .u64 (l2 p.bal : Nat), .int .u64 (l1 p.bal : Nat), .int .u64 (l0 p.bal : Nat), .string (str p.code), .int .u64 (l3 p.value : Nat), .int .u64 (l2 p.value : Nat), .int .u64 (l1 p.value : Nat), .int .u64 (l0 p.value : Nat)], 45), (g5, #[.int .u64 p.id, .int .u64 p.nonce, .int .u64 (l3 p.bal : Nat), .int .u64 (l2 p.bal : Nat), .int .u64 (l1 p.bal : Nat), .int .u64 (l0 p.bal : Nat), .string (str p.code), .int .u64 (l3 p.value : Nat), .int .u64 (l2 p.value : Nat), .int .u64 (l1 p.value : Nat), .int .u64 (l0 p.value : Nat)], 42), (w.heap.size, #[.int .u64 a.id, .int .u64 a.nonce, .int .u64 (l3 a.bal : Nat), .int .u64 (l2 a.bal : Nat), .int .u64 (l1 a.bal : Nat), .int .u64 (l0 a.bal : Nat), .string (str a.code), .int .u64 (l3 a.value : Nat), .int .u64 (l2 a.value : Nat), .int .u64 (l1 a.value : Nat), .int .u64 (l0 a.value : Nat)], 42)] V) => And.intro (cells11 (hV.get (.tail _ (.head _)))).1 (cells11 (hV.get (.head _))).1)
      refine Drawn.start (fun V => Kb w [(g6, #[.int .u64 p.id, .int .u64 p.nonce, .int .u64 (l3 p.bal : Nat), .int .u64 (l2 p.bal : Nat), .int .u64 (l1 p.bal : Nat), .int .u64 (l0 p.bal : Nat), .string (str p.code), .int .u64 (l3 p.value : Nat), .int .u64 (l2 p.value : Nat), .int .u64 (l1 p.value : Nat), .int .u64 (l0 p.value : Nat)], 45), (g5, #[.int .u64 p.id, .int .u64 p.nonce, .int .u64 (l3 p.bal : Nat), .int .u64 (l2 p.bal : Nat), .int .u64 (l1 p.bal : Nat), .int .u64 (l0 p.bal : Nat), .string (str p.code), .int .u64 (l3 p.value : Nat), .int .u64 (l2 p.value : Nat), .int .u64 (l1 p.value : Nat), .int .u64 (l0 p.value : Nat)], 42), (w.heap.size, #[.int .u64 a.id, .int .u64 a.nonce, .int .u64 (l3 a.bal : Nat), .int .u64 (l2 a.bal : Nat), .int .u64 (l1 a.bal : Nat), .int .u64 (l0 a.bal : Nat), .string (str a.code), .int .u64 (l3 a.value : Nat), .int .u64 (l2 a.value : Nat), .int .u64 (l1 a.value : Nat), .int .u64 (l0 a.value : Nat)], 42)] V) (fun _ => false) (by kernel_rfl) ?_
      refine Drawn.take 0 (some 82) (v := ?_) rfl rfl (by kernel_rfl) (by kernel_rfl) (by kernel_rfl) (by kernel_rfl) (by kernel_rfl) rfl (fun _ _ _ h => h) (Or.inl ⟨rfl, ?_⟩) H0 ?_
      rotate_left
      · intro W hW; have hW := HS.out W hW; go_simp; try with_reducible rfl
      simp only [put_list, List.set]
      refine Drawn.take 1 (some 83) (v := ?_) rfl rfl (by kernel_rfl) (by kernel_rfl) (by kernel_rfl) (by kernel_rfl) (by kernel_rfl) rfl (fun _ _ _ h => h) (Or.inl ⟨rfl, ?_⟩) H0 ?_
      rotate_left
      · intro W hW; have hW := HS.out W hW; go_simp; try with_reducible rfl
      simp only [put_list, List.set]
      refine Drawn.take 2 (some 84) (v := ?_) rfl rfl (by kernel_rfl) (by kernel_rfl) (by kernel_rfl) (by kernel_rfl) (by kernel_rfl) rfl (fun _ _ _ h => h) (Or.inl ⟨rfl, ?_⟩) H0 ?_
      rotate_left
      · intro W hW; have hW := HS.out W hW; go_simp; try with_reducible rfl
      simp only [put_list, List.set]
      refine Drawn.take 3 (some 85) (v := ?_) rfl rfl (by kernel_rfl) (by kernel_rfl) (by kernel_rfl) (by kernel_rfl) (by kernel_rfl) rfl (fun _ _ _ h => h) (Or.inl ⟨rfl, ?_⟩) H0 ?_
      rotate_left
      · intro W hW; have hW := HS.out W hW; go_simp; try with_reducible rfl
      simp only [put_list, List.set]
      refine Drawn.take 4 (some 86) (v := ?_) rfl rfl (by kernel_rfl) (by kernel_rfl) (by kernel_rfl) (by kernel_rfl) (by kernel_rfl) rfl (fun _ _ _ h => h) (Or.inl ⟨rfl, ?_⟩) H0 ?_
      rotate_left
      · intro W hW; have hW := HS.out W hW; go_simp; try with_reducible rfl
      simp only [put_list, List.set]
      refine Drawn.take 5 (some 87) (v := ?_) rfl rfl (by kernel_rfl) (by kernel_rfl) (by kernel_rfl) (by kernel_rfl) (by kernel_rfl) rfl (fun _ _ _ h => h) (Or.inl ⟨rfl, ?_⟩) H0 ?_
      rotate_left
      · intro W hW; have hW := HS.out W hW; go_simp; try with_reducible rfl
      simp only [put_list, List.set]
      refine Drawn.take 6 (some 88) (v := ?_) rfl rfl (by kernel_rfl) (by kernel_rfl) (by kernel_rfl) (by kernel_rfl) (by kernel_rfl) rfl (fun _ _ _ h => h) (Or.inl ⟨rfl, ?_⟩) H0 ?_
      rotate_left
      · intro W hW; have hW := HS.out W hW; go_simp; try with_reducible rfl
      simp only [put_list, List.set]
      refine Drawn.take 7 (some 89) (v := ?_) rfl rfl (by kernel_rfl) (by kernel_rfl) (by kernel_rfl) (by kernel_rfl) (by kernel_rfl) rfl (fun _ _ _ h => h) (Or.inl ⟨rfl, ?_⟩) H0 ?_
      rotate_left
      · intro W hW; have hW := HS.out W hW; go_simp; try with_reducible rfl
      simp only [put_list, List.set]
      refine Drawn.take 8 (some 90) (v := ?_) rfl rfl (by kernel_rfl) (by kernel_rfl) (by kernel_rfl) (by kernel_rfl) (by kernel_rfl) rfl (fun _ _ _ h => h) (Or.inl ⟨rfl, ?_⟩) H0 ?_
      rotate_left
      · intro W hW; have hW := HS.out W hW; go_simp; try with_reducible rfl
      simp only [put_list, List.set]
      refine Drawn.take 9 (some 91) (v := ?_) rfl rfl (by kernel_rfl) (by kernel_rfl) (by kernel_rfl) (by kernel_rfl) (by kernel_rfl) rfl (fun _ _ _ h => h) (Or.inl ⟨rfl, ?_⟩) H0 ?_
      rotate_left
      · intro W hW; have hW := HS.out W hW; go_simp; try with_reducible rfl
      simp only [put_list, List.set]
      refine Drawn.take 10 (some 92) (v := ?_) rfl rfl (by kernel_rfl) (by kernel_rfl) (by kernel_rfl) (by kernel_rfl) (by kernel_rfl) rfl (fun _ _ _ h => h) (Or.inl ⟨rfl, ?_⟩) H0 ?_
      rotate_left
      · intro W hW; have hW := HS.out W hW; go_simp; try with_reducible rfl
      simp only [put_list, List.set]
      refine Drawn.take 11 (some 93) (v := ?_) rfl rfl (by kernel_rfl) (by kernel_rfl) (by kernel_rfl) (by kernel_rfl) (by kernel_rfl) rfl (fun _ _ _ h => h) (Or.inl ⟨rfl, ?_⟩) H0 ?_
      rotate_left
      · intro W hW; have hW := HS.out W hW; go_simp; try with_reducible rfl
      simp only [put_list, List.set]
      refine Drawn.take 12 (some 94) (v := ?_) rfl rfl (by kernel_rfl) (by kernel_rfl) (by kernel_rfl) (by kernel_rfl) (by kernel_rfl) rfl (fun _ _ _ h => h) (Or.inl ⟨rfl, ?_⟩) H0 ?_
      rotate_left
      · intro W hW; have hW := HS.out W hW; go_simp; try with_reducible rfl
      simp only [put_list, List.set]
      refine Drawn.take 14 (some 96) (v := ?_) rfl rfl (by kernel_rfl) (by kernel_rfl) (by kernel_rfl) (by kernel_rfl) (by kernel_rfl) rfl (fun _ _ _ h => h) (Or.inl ⟨rfl, ?_⟩) H0 ?_
      rotate_left
      · intro W hW; have hW := HS.out W hW; go_simp; try with_reducible rfl
      simp only [put_list, List.set]
      refine Drawn.only 13 (by kernel_rfl) rfl rfl (fun K hK => ?_)
      go_simp
      refine (HRF.out _).mono ?_
      rintro e w9 ⟨rfl, hb⟩
      refine hK _ _ (fun _ _ => H0.call hb) ?_
      replace H0 := H0.call hb
      clear hK K hb
      try simp only [put_list, List.set]
      refine Drawn.take 15 (some 97) (v := ?_) rfl rfl (by kernel_rfl) (by kernel_rfl) (by kernel_rfl) (by kernel_rfl) (by kernel_rfl) rfl (fun _ _ _ h => h) (Or.inl ⟨rfl, ?_⟩) H0 ?_
      rotate_left
      · intro W hW; have hW := HS.out W hW; go_simp; try with_reducible rfl
      simp only [put_list, List.set]
      refine Drawn.take 16 (some 98) (v := ?_) rfl rfl (by kernel_rfl) (by kernel_rfl) (by kernel_rfl) (by kernel_rfl) (by kernel_rfl) rfl (fun _ _ _ h => h) (Or.inl ⟨rfl, ?_⟩) H0 ?_
      rotate_left
      · intro W hW; have hW := HS.out W hW; go_simp; try with_reducible rfl
      simp only [put_list, List.set]
      refine Drawn.take 17 (some 99) (v := ?_) rfl rfl (by kernel_rfl) (by kernel_rfl) (by kernel_rfl) (by kernel_rfl) (by kernel_rfl) rfl (fun _ _ _ h => h) (Or.inl ⟨rfl, ?_⟩) H0 ?_
      rotate_left
      · intro W hW; have hW := HS.out W hW; go_simp; try with_reducible rfl
      simp only [put_list, List.set]
      refine Drawn.take 18 (some 100) (v := ?_) rfl rfl (by kernel_rfl) (by kernel_rfl) (by kernel_rfl) (by kernel_rfl) (by kernel_rfl) rfl (fun _ _ _ h => h) (Or.inl ⟨rfl, ?_⟩) H0 ?_
      rotate_left
      · intro W hW; have hW := HS.out W hW; go_simp; try with_reducible rfl
      simp only [put_list, List.set]
      refine Drawn.take 19 (some 101) (v := ?_) rfl rfl (by kernel_rfl) (by kernel_rfl) (by kernel_rfl) (by kernel_rfl) (by kernel_rfl) rfl (fun _ _ _ h => h) (Or.inl ⟨rfl, ?_⟩) H0 ?_
      rotate_left
      · intro W hW; have hW := HS.out W hW; go_simp; try with_reducible rfl
      simp only [put_list, List.set]
      refine Drawn.take 20 (some 102) (v := ?_) rfl rfl (by kernel_rfl) (by kernel_rfl) (by kernel_rfl) (by kernel_rfl) (by kernel_rfl) rfl (fun _ _ _ h => h) (Or.inl ⟨rfl, ?_⟩) H0 ?_
      rotate_left
      · intro W hW; have hW := HS.out W hW; go_simp; try with_reducible rfl
      simp only [put_list, List.set]
      refine Drawn.take 21 (some 103) (v := ?_) rfl rfl (by kernel_rfl) (by kernel_rfl) (by kernel_rfl) (by kernel_rfl) (by kernel_rfl) rfl (fun _ _ _ h => h) (Or.inl ⟨rfl, ?_⟩) H0 ?_
      rotate_left
      · intro W hW; have hW := HS.out W hW; go_simp; try with_reducible rfl
      simp only [put_list, List.set]
      refine Drawn.take 22 (some 14) (v := ?_) rfl rfl (by kernel_rfl) (by kernel_rfl) (by kernel_rfl) (by kernel_rfl) (by kernel_rfl) rfl (fun _ _ _ h => h) (Or.inl ⟨rfl, ?_⟩) H0 ?_
      rotate_left
      · intro W hW; have hW := HS.out W hW; go_simp; try with_reducible rfl
      simp only [put_list, List.set]
      refine Drawn.done (by kernel_rfl) ?_ _
      have HB := Lib.hid H0.below
      clear H0 HS hre HRF K6
      go_wp2_with fail
      go_ret
      exact ⟨rfl, HB.out⟩
    · have hLn := hel.out hok
      obtain ⟨cap, W5, hcv, hb1, hb2, hb3⟩ := bytes_of (str (a.enc kind)) w4
      have HNE := Lib.hid (show ∀ p ∈ ([(w.heap.size, #[.int .u64 a.id, .int .u64 a.nonce, .int .u64 (l3 a.bal : Nat), .int .u64 (l2 a.bal : Nat), .int .u64 (l1 a.bal : Nat), .int .u64 (l0 a.bal : Nat), .string (str a.code), .int .u64 (l3 a.value : Nat), .int .u64 (l2 a.value : Nat), .int .u64 (l1 a.value : Nat), .int .u64 (l0 a.value : Nat)], 42)] : List (Nat × Array Value × TypeId)), p.1 ≠ w4.heap.size from K4.out.ne)
      have HBS := Lib.hid K4.out.below.size
      replace K4 := Lib.hid (K4.out.call hb2)
      obtain ⟨L, hL⟩ : ∃ L, L = (a.enc kind).length := ⟨_, rfl⟩
      have hLb : 0 < L := by rw [hL]; exact List.length_pos_iff.2 hemp
      have hsz : (str (a.enc kind)).size = L := by rw [str_size, hL]
      rw [hsz] at hcv hb1
      have HY := Lib.hid (And.intro hb1 (And.intro HNE.out HBS.out))
      have HL := Lib.hid hL
      rw [← hL] at hLn
      clear hb1 hb2 hb3 hL HNE HBS hemp
      generalize hst : str (a.enc kind) = y at *
      have HST := Lib.hid hst
      clear hst
      generalize hg4 : w4.heap.size = g4 at *
      by_cases hneg : at3 < 0
      · obtain ⟨z, hz⟩ : ∃ z : Nat, -(at3 + 1) = (z : Int) := ⟨(-(at3 + 1)).toNat, by omega⟩
        have hzb : z ≤ 9223372036854775807 := by have := HAT.out; omega
        have hz1 : IntKind.i64.wrap (at3 + 1) = at3 + 1 := IntWalk.i64_in _ (by have := HAT.out; omega)
        have hz2 : IntKind.i64.wrap (-(at3 + 1)) = (z : Int) := by rw [hz]; exact IntWalk.i64_in _ (by omega)
        have hz3 : wrap64 (z : Int) = (z : Int) := IntWalk.wrap64_in _ (by omega)
        obtain ⟨j, hj⟩ : ∃ j, j = z % L := ⟨_, rfl⟩
        have hjl : j < L := by rw [hj]; exact Nat.mod_lt _ hLb
        have hrem : (z : Int) % (L : Int) = (j : Int) := by rw [hj]; simp
        have hi0 : (0 : Int) ≤ (j : Int) ∧ (j : Int) < (L : Int) := by omega
        have hL0 : ¬ L = 0 := by omega
        have htm : (z : Int).tmod (L : Int) = (j : Int) := by rw [IntWalk.rem_in _ _ (by omega), hrem]
        have d0 := (HY.out.1 j hjl).1
        have e0 := (HY.out.1 j hjl).2
        have hxor := u8_xor_nat (byteAtK y j) by4 (byteAt_ltK _ _) HBY.out
        have hset : Bt g4 L (upd (byteAtK y) j (byteAtK y j ^^^ by4)) ((W5.setCell ⟨g4, j, none⟩ (.int .u8 (byteAtK y j ^^^ by4 : Nat))).drew) := HY.out.1.set hjl (byteAtK y j ^^^ by4)
        have hcv2 := hset.conv (fun i => by unfold upd; split; (· exact Nat.xor_lt_two_pow (n := 8) (byteAt_ltK _ _) HBY.out); (· exact byteAt_ltK _ _)) cap
        have htt := txt_turn (s := (a.enc kind)) (m := j) HBY.out (by rw [← HL.out]; exact hjl)
        rw [HST.out, ← HL.out] at htt
        rw [htt] at hcv2
        have HD1 := Lib.hid (fun V => getReply_c other (turnB (a.enc kind) j (UInt8.ofNat by4)) V)
        have HD2 := Lib.hid (fun V => rgetReply_c other (turnB (a.enc kind) j (UInt8.ofNat by4)) V)
        have hgb := HY.out.2.2
        replace K4 := Lib.hid ((K4.out.set (i := j) (b := g4) hgb HY.out.2.1 (.int .u8 (byteAtK y j ^^^ by4 : Nat))).call (Below.refl _ _).drew)
        generalize str (turnB (a.enc kind) j (UInt8.ofNat by4)) = tt at *
        generalize byteAtK y j ^^^ by4 = x8 at *
        generalize byteAtK y j = x0 at *
        clear hset htt hj hjl HY HL HST HBY HAT hgb hzb hz
        go_wp2_with fail
        go_still_tail 15, (by kernel_rfl)
        go_wp2_with fail
        refine (HD1.out _).mono ?_
        rintro e w5 ⟨o, ho, rfl, hb⟩
        rw [replyO_eq]
        obtain ⟨p, hp⟩ : ∃ p, p = o.getD ReplyP.zero := ⟨_, rfl⟩
        obtain ⟨q, hq⟩ : ∃ q, q = o.isSome := ⟨_, rfl⟩
        rw [← hp, ← hq]
        have K5 := Lib.hid ((K4.out.call hb).box #[.int .u64 p.id, .int .u64 p.nonce, .int .u64 (l3 p.bal : Nat), .int .u64 (l2 p.bal : Nat), .int .u64 (l1 p.bal : Nat), .int .u64 (l0 p.bal : Nat), .string (str p.code), .int .u64 (l3 p.value : Nat), .int .u64 (l2 p.value : Nat), .int .u64 (l1 p.value : Nat), .int .u64 (l0 p.value : Nat)] 42)
        have HO := Lib.hid (And.intro ho (And.intro hp hq))
        clear hb K4 ho hp hq HD1
        unfold replyV
        go_wp2_with fail
        refine (HD2.out _).mono ?_
        rintro e w6 ⟨o', ho', rfl, hb⟩
        obtain rfl := HO.out.1.one ho'
        rw [replyO_eq, ← HO.out.2.1, ← HO.out.2.2]
        have K6 := Lib.hid (((K5.out.call hb).box #[.int .u64 p.id, .int .u64 p.nonce, .int .u64 (l3 p.bal : Nat), .int .u64 (l2 p.bal : Nat), .int .u64 (l1 p.bal : Nat), .int .u64 (l0 p.bal : Nat), .string (str p.code), .int .u64 (l3 p.value : Nat), .int .u64 (l2 p.value : Nat), .int .u64 (l1 p.value : Nat), .int .u64 (l0 p.value : Nat)] 45).call (Below.refl _ _).drew)
        clear hb K5 ho' HO HD2
        unfold replyV
        go_wp2_with fail
        generalize w5.heap.size = g5 at *
        generalize w6.heap.size = g6 at *
        have H0 := K6.out
        have HRF := Lib.hid (fun V => refReply_c p V)
        have hre := req_reply p
        unfold replyV at HRF hre
        have HS := Lib.hid (fun (V : World) (hV : Kb w [(g6, #[.int .u64 p.id, .int .u64 p.nonce, .int .u64 (l3 p.bal : Nat), .int .u64 (l2 p.bal : Nat), .int .u64 (l1 p.bal : Nat), .int .u64 (l0 p.bal : Nat), .string (str p.code), .int .u64 (l3 p.value : Nat), .int .u64 (l2 p.value : Nat), .int .u64 (l1 p.value : Nat), .int .u64 (l0 p.value : Nat)], 45), (g5, #[.int .u64 p.id, .int .u64 p.nonce, .int .u64 (l3 p.bal : Nat), .int .u64 (l2 p.bal : Nat), .int .u64 (l1 p.bal : Nat), .int .u64 (l0 p.bal : Nat), .string (str p.code), .int .u64 (l3 p.value : Nat), .int .u64 (l2 p.value : Nat), .int .u64 (l1 p.value : Nat), .int .u64 (l0 p.value : Nat)], 42), (w.heap.size, #[.int .u64 a.id, .int .u64 a.nonce, .int .u64 (l3 a.bal : Nat), .int .u64 (l2 a.bal : Nat), .int .u64 (l1 a.bal : Nat), .int .u64 (l0 a.bal : Nat), .string (str a.code), .int .u64 (l3 a.value : Nat), .int .u64 (l2 a.value : Nat), .int .u64 (l1 a.value : Nat), .int .u64 (l0 a.value : Nat)], 42)] V) => And.intro (cells11 (hV.get (.tail _ (.head _)))).1 (cells11 (hV.get (.head _))).1)
        refine Drawn.start (fun V => Kb w [(g6, #[.int .u64 p.id, .int .u64 p.nonce, .int .u64 (l3 p.bal : Nat), .int .u64 (l2 p.bal : Nat), .int .u64 (l1 p.bal : Nat), .int .u64 (l0 p.bal : Nat), .string (str p.code), .int .u64 (l3 p.value : Nat), .int .u64 (l2 p.value : Nat), .int .u64 (l1 p.value : Nat), .int .u64 (l0 p.value : Nat)], 45), (g5, #[.int .u64 p.id, .int .u64 p.nonce, .int .u64 (l3 p.bal : Nat), .int .u64 (l2 p.bal : Nat), .int .u64 (l1 p.bal : Nat), .int .u64 (l0 p.bal : Nat), .string (str p.code), .int .u64 (l3 p.value : Nat), .int .u64 (l2 p.value : Nat), .int .u64 (l1 p.value : Nat), .int .u64 (l0 p.value : Nat)], 42), (w.heap.size, #[.int .u64 a.id, .int .u64 a.nonce, .int .u64 (l3 a.bal : Nat), .int .u64 (l2 a.bal : Nat), .int .u64 (l1 a.bal : Nat), .int .u64 (l0 a.bal : Nat), .string (str a.code), .int .u64 (l3 a.value : Nat), .int .u64 (l2 a.value : Nat), .int .u64 (l1 a.value : Nat), .int .u64 (l0 a.value : Nat)], 42)] V) (fun _ => false) (by kernel_rfl) ?_
        refine Drawn.take 0 (some 82) (v := ?_) rfl rfl (by kernel_rfl) (by kernel_rfl) (by kernel_rfl) (by kernel_rfl) (by kernel_rfl) rfl (fun _ _ _ h => h) (Or.inl ⟨rfl, ?_⟩) H0 ?_
        rotate_left
        · intro W hW; have hW := HS.out W hW; go_simp; try with_reducible rfl
        simp only [put_list, List.set]
        refine Drawn.take 1 (some 83) (v := ?_) rfl rfl (by kernel_rfl) (by kernel_rfl) (by kernel_rfl) (by kernel_rfl) (by kernel_rfl) rfl (fun _ _ _ h => h) (Or.inl ⟨rfl, ?_⟩) H0 ?_
        rotate_left
        · intro W hW; have hW := HS.out W hW; go_simp; try with_reducible rfl
        simp only [put_list, List.set]
        refine Drawn.take 2 (some 84) (v := ?_) rfl rfl (by kernel_rfl) (by kernel_rfl) (by kernel_rfl) (by kernel_rfl) (by kernel_rfl) rfl (fun _ _ _ h => h) (Or.inl ⟨rfl, ?_⟩) H0 ?_
        rotate_left
        · intro W hW; have hW := HS.out W hW; go_simp; try with_reducible rfl
        simp only [put_list, List.set]
        refine Drawn.take 3 (some 85) (v := ?_) rfl rfl (by kernel_rfl) (by kernel_rfl) (by kernel_rfl) (by kernel_rfl) (by kernel_rfl) rfl (fun _ _ _ h => h) (Or.inl ⟨rfl, ?_⟩) H0 ?_
        rotate_left
        · intro W hW; have hW := HS.out W hW; go_simp; try with_reducible rfl
        simp only [put_list, List.set]
        refine Drawn.take 4 (some 86) (v := ?_) rfl rfl (by kernel_rfl) (by kernel_rfl) (by kernel_rfl) (by kernel_rfl) (by kernel_rfl) rfl (fun _ _ _ h => h) (Or.inl ⟨rfl, ?_⟩) H0 ?_
        rotate_left
        · intro W hW; have hW := HS.out W hW; go_simp; try with_reducible rfl
        simp only [put_list, List.set]
        refine Drawn.take 5 (some 87) (v := ?_) rfl rfl (by kernel_rfl) (by kernel_rfl) (by kernel_rfl) (by kernel_rfl) (by kernel_rfl) rfl (fun _ _ _ h => h) (Or.inl ⟨rfl, ?_⟩) H0 ?_
        rotate_left
        · intro W hW; have hW := HS.out W hW; go_simp; try with_reducible rfl
        simp only [put_list, List.set]
        refine Drawn.take 6 (some 88) (v := ?_) rfl rfl (by kernel_rfl) (by kernel_rfl) (by kernel_rfl) (by kernel_rfl) (by kernel_rfl) rfl (fun _ _ _ h => h) (Or.inl ⟨rfl, ?_⟩) H0 ?_
        rotate_left
        · intro W hW; have hW := HS.out W hW; go_simp; try with_reducible rfl
        simp only [put_list, List.set]
        refine Drawn.take 7 (some 89) (v := ?_) rfl rfl (by kernel_rfl) (by kernel_rfl) (by kernel_rfl) (by kernel_rfl) (by kernel_rfl) rfl (fun _ _ _ h => h) (Or.inl ⟨rfl, ?_⟩) H0 ?_
        rotate_left
        · intro W hW; have hW := HS.out W hW; go_simp; try with_reducible rfl
        simp only [put_list, List.set]
        refine Drawn.take 8 (some 90) (v := ?_) rfl rfl (by kernel_rfl) (by kernel_rfl) (by kernel_rfl) (by kernel_rfl) (by kernel_rfl) rfl (fun _ _ _ h => h) (Or.inl ⟨rfl, ?_⟩) H0 ?_
        rotate_left
        · intro W hW; have hW := HS.out W hW; go_simp; try with_reducible rfl
        simp only [put_list, List.set]
        refine Drawn.take 9 (some 91) (v := ?_) rfl rfl (by kernel_rfl) (by kernel_rfl) (by kernel_rfl) (by kernel_rfl) (by kernel_rfl) rfl (fun _ _ _ h => h) (Or.inl ⟨rfl, ?_⟩) H0 ?_
        rotate_left
        · intro W hW; have hW := HS.out W hW; go_simp; try with_reducible rfl
        simp only [put_list, List.set]
        refine Drawn.take 10 (some 92) (v := ?_) rfl rfl (by kernel_rfl) (by kernel_rfl) (by kernel_rfl) (by kernel_rfl) (by kernel_rfl) rfl (fun _ _ _ h => h) (Or.inl ⟨rfl, ?_⟩) H0 ?_
        rotate_left
        · intro W hW; have hW := HS.out W hW; go_simp; try with_reducible rfl
        simp only [put_list, List.set]
        refine Drawn.take 11 (some 93) (v := ?_) rfl rfl (by kernel_rfl) (by kernel_rfl) (by kernel_rfl) (by kernel_rfl) (by kernel_rfl) rfl (fun _ _ _ h => h) (Or.inl ⟨rfl, ?_⟩) H0 ?_
        rotate_left
        · intro W hW; have hW := HS.out W hW; go_simp; try with_reducible rfl
        simp only [put_list, List.set]
        refine Drawn.take 12 (some 94) (v := ?_) rfl rfl (by kernel_rfl) (by kernel_rfl) (by kernel_rfl) (by kernel_rfl) (by kernel_rfl) rfl (fun _ _ _ h => h) (Or.inl ⟨rfl, ?_⟩) H0 ?_
        rotate_left
        · intro W hW; have hW := HS.out W hW; go_simp; try with_reducible rfl
        simp only [put_list, List.set]
        refine Drawn.take 14 (some 96) (v := ?_) rfl rfl (by kernel_rfl) (by kernel_rfl) (by kernel_rfl) (by kernel_rfl) (by kernel_rfl) rfl (fun _ _ _ h => h) (Or.inl ⟨rfl, ?_⟩) H0 ?_
        rotate_left
        · intro W hW; have hW := HS.out W hW; go_simp; try with_reducible rfl
        simp only [put_list, List.set]
        refine Drawn.only 13 (by kernel_rfl) rfl rfl (fun K hK => ?_)
        go_simp
        refine (HRF.out _).mono ?_
        rintro e w9 ⟨rfl, hb⟩
        refine hK _ _ (fun _ _ => H0.call hb) ?_
        replace H0 := H0.call hb
        clear hK K hb
        try simp only [put_list, List.set]
        refine Drawn.take 15 (some 97) (v := ?_) rfl rfl (by kernel_rfl) (by kernel_rfl) (by kernel_rfl) (by kernel_rfl) (by kernel_rfl) rfl (fun _ _ _ h => h) (Or.inl ⟨rfl, ?_⟩) H0 ?_
        rotate_left
        · intro W hW; have hW := HS.out W hW; go_simp; try with_reducible rfl
        simp only [put_list, List.set]
        refine Drawn.take 16 (some 98) (v := ?_) rfl rfl (by kernel_rfl) (by kernel_rfl) (by kernel_rfl) (by kernel_rfl) (by kernel_rfl) rfl (fun _ _ _ h => h) (Or.inl ⟨rfl, ?_⟩) H0 ?_
        rotate_left
        · intro W hW; have hW := HS.out W hW; go_simp; try with_reducible rfl
        simp only [put_list, List.set]
        refine Drawn.take 17 (some 99) (v := ?_) rfl rfl (by kernel_rfl) (by kernel_rfl) (by kernel_rfl) (by kernel_rfl) (by kernel_rfl) rfl (fun _ _ _ h => h) (Or.inl ⟨rfl, ?_⟩) H0 ?_
        rotate_left
        · intro W hW; have hW := HS.out W hW; go_simp; try with_reducible rfl
        simp only [put_list, List.set]
        refine Drawn.take 18 (some 100) (v := ?_) rfl rfl (by kernel_rfl) (by kernel_rfl) (by kernel_rfl) (by kernel_rfl) (by kernel_rfl) rfl (fun _ _ _ h => h) (Or.inl ⟨rfl, ?_⟩) H0 ?_
        rotate_left
        · intro W hW; have hW := HS.out W hW; go_simp; try with_reducible rfl
        simp only [put_list, List.set]
        refine Drawn.take 19 (some 101) (v := ?_) rfl rfl (by kernel_rfl) (by kernel_rfl) (by kernel_rfl) (by kernel_rfl) (by kernel_rfl) rfl (fun _ _ _ h => h) (Or.inl ⟨rfl, ?_⟩) H0 ?_
        rotate_left
        · intro W hW; have hW := HS.out W hW; go_simp; try with_reducible rfl
        simp only [put_list, List.set]
        refine Drawn.take 20 (some 102) (v := ?_) rfl rfl (by kernel_rfl) (by kernel_rfl) (by kernel_rfl) (by kernel_rfl) (by kernel_rfl) rfl (fun _ _ _ h => h) (Or.inl ⟨rfl, ?_⟩) H0 ?_
        rotate_left
        · intro W hW; have hW := HS.out W hW; go_simp; try with_reducible rfl
        simp only [put_list, List.set]
        refine Drawn.take 21 (some 103) (v := ?_) rfl rfl (by kernel_rfl) (by kernel_rfl) (by kernel_rfl) (by kernel_rfl) (by kernel_rfl) rfl (fun _ _ _ h => h) (Or.inl ⟨rfl, ?_⟩) H0 ?_
        rotate_left
        · intro W hW; have hW := HS.out W hW; go_simp; try with_reducible rfl
        simp only [put_list, List.set]
        refine Drawn.take 22 (some 14) (v := ?_) rfl rfl (by kernel_rfl) (by kernel_rfl) (by kernel_rfl) (by kernel_rfl) (by kernel_rfl) rfl (fun _ _ _ h => h) (Or.inl ⟨rfl, ?_⟩) H0 ?_
        rotate_left
        · intro W hW; have hW := HS.out W hW; go_simp; try with_reducible rfl
        simp only [put_list, List.set]
        refine Drawn.done (by kernel_rfl) ?_ _
        have HB := Lib.hid H0.below
        clear H0 HS hre HRF K6
        go_wp2_with fail
        go_ret
        exact ⟨rfl, HB.out⟩
      · obtain ⟨z, rfl⟩ : ∃ z : Nat, at3 = (z : Int) := ⟨at3.toNat, by omega⟩
        have hzb : z ≤ 9223372036854775807 := by have := HAT.out; omega
        have hz3 : wrap64 (z : Int) = (z : Int) := IntWalk.wrap64_in _ (by omega)
        obtain ⟨j, hj⟩ : ∃ j, j = z % L := ⟨_, rfl⟩
        have hjl : j < L := by rw [hj]; exact Nat.mod_lt _ hLb
        have hrem : (z : Int) % (L : Int) = (j : Int) := by rw [hj]; simp
        have hi0 : (0 : Int) ≤ (j : Int) ∧ (j : Int) < (L : Int) := by omega
        have hL0 : ¬ L = 0 := by omega
        have htm : (z : Int).tmod (L : Int) = (j : Int) := by rw [IntWalk.rem_in _ _ (by omega), hrem]
        have d0 := (HY.out.1 j hjl).1
        have e0 := (HY.out.1 j hjl).2
        have hxor := u8_xor_nat (byteAtK y j) by4 (byteAt_ltK _ _) HBY.out
        have hset : Bt g4 L (upd (byteAtK y) j (byteAtK y j ^^^ by4)) ((W5.setCell ⟨g4, j, none⟩ (.int .u8 (byteAtK y j ^^^ by4 : Nat))).drew) := HY.out.1.set hjl (byteAtK y j ^^^ by4)
        have hcv2 := hset.conv (fun i => by unfold upd; split; (· exact Nat.xor_lt_two_pow (n := 8) (byteAt_ltK _ _) HBY.out); (· exact byteAt_ltK _ _)) cap
        have htt := txt_turn (s := (a.enc kind)) (m := j) HBY.out (by rw [← HL.out]; exact hjl)
        rw [HST.out, ← HL.out] at htt
        rw [htt] at hcv2
        have HD1 := Lib.hid (fun V => getReply_c other (turnB (a.enc kind) j (UInt8.ofNat by4)) V)
        have HD2 := Lib.hid (fun V => rgetReply_c other (turnB (a.enc kind) j (UInt8.ofNat by4)) V)
        have hgb := HY.out.2.2
        replace K4 := Lib.hid ((K4.out.set (i := j) (b := g4) hgb HY.out.2.1 (.int .u8 (byteAtK y j ^^^ by4 : Nat))).call (Below.refl _ _).drew)
        generalize str (turnB (a.enc kind) j (UInt8.ofNat by4)) = tt at *
        generalize byteAtK y j ^^^ by4 = x8 at *
        generalize byteAtK y j = x0 at *
        clear hset htt hj hjl HY HL HST HBY HAT hgb hzb 
        go_wp2_with fail
        go_still_tail 15, (by kernel_rfl)
        go_wp2_with fail
        refine (HD1.out _).mono ?_
        rintro e w5 ⟨o, ho, rfl, hb⟩
        rw [replyO_eq]
        obtain ⟨p, hp⟩ : ∃ p, p = o.getD ReplyP.zero := ⟨_, rfl⟩
        obtain ⟨q, hq⟩ : ∃ q, q = o.isSome := ⟨_, rfl⟩
        rw [← hp, ← hq]
        have K5 := Lib.hid ((K4.out.call hb).box #[.int .u64 p.id, .int .u64 p.nonce, .int .u64 (l3 p.bal : Nat), .int .u64 (l2 p.bal : Nat), .int .u64 (l1 p.bal : Nat), .int .u64 (l0 p.bal : Nat), .string (str p.code), .int .u64 (l3 p.value : Nat), .int .u64 (l2 p.value : Nat), .int .u64 (l1 p.value : Nat), .int .u64 (l0 p.value : Nat)] 42)
        have HO := Lib.hid (And.intro ho (And.intro hp hq))
        clear hb K4 ho hp hq HD1
        unfold replyV
        go_wp2_with fail
        refine (HD2.out _).mono ?_
        rintro e w6 ⟨o', ho', rfl, hb⟩
        obtain rfl := HO.out.1.one ho'
        rw [replyO_eq, ← HO.out.2.1, ← HO.out.2.2]
        have K6 := Lib.hid (((K5.out.call hb).box #[.int .u64 p.id, .int .u64 p.nonce, .int .u64 (l3 p.bal : Nat), .int .u64 (l2 p.bal : Nat), .int .u64 (l1 p.bal : Nat), .int .u64 (l0 p.bal : Nat), .string (str p.code), .int .u64 (l3 p.value : Nat), .int .u64 (l2 p.value : Nat), .int .u64 (l1 p.value : Nat), .int .u64 (l0 p.value : Nat)] 45).call (Below.refl _ _).drew)
        clear hb K5 ho' HO HD2
        unfold replyV
        go_wp2_with fail
        generalize w5.heap.size = g5 at *
        generalize w6.heap.size = g6 at *
        have H0 := K6.out
        have HRF := Lib.hid (fun V => refReply_c p V)
        have hre := req_reply p
        unfold replyV at HRF hre
        have HS := Lib.hid (fun (V : World) (hV : Kb w [(g6, #[.int .u64 p.id, .int .u64 p.nonce, .int .u64 (l3 p.bal : Nat), .int .u64 (l2 p.bal : Nat), .int .u64 (l1 p.bal : Nat), .int .u64 (l0 p.bal : Nat), .string (str p.code), .int .u64 (l3 p.value : Nat), .int .u64 (l2 p.value : Nat), .int .u64 (l1 p.value : Nat), .int .u64 (l0 p.value : Nat)], 45), (g5, #[.int .u64 p.id, .int .u64 p.nonce, .int .u64 (l3 p.bal : Nat), .int .u64 (l2 p.bal : Nat), .int .u64 (l1 p.bal : Nat), .int .u64 (l0 p.bal : Nat), .string (str p.code), .int .u64 (l3 p.value : Nat), .int .u64 (l2 p.value : Nat), .int .u64 (l1 p.value : Nat), .int .u64 (l0 p.value : Nat)], 42), (w.heap.size, #[.int .u64 a.id, .int .u64 a.nonce, .int .u64 (l3 a.bal : Nat), .int .u64 (l2 a.bal : Nat), .int .u64 (l1 a.bal : Nat), .int .u64 (l0 a.bal : Nat), .string (str a.code), .int .u64 (l3 a.value : Nat), .int .u64 (l2 a.value : Nat), .int .u64 (l1 a.value : Nat), .int .u64 (l0 a.value : Nat)], 42)] V) => And.intro (cells11 (hV.get (.tail _ (.head _)))).1 (cells11 (hV.get (.head _))).1)
        refine Drawn.start (fun V => Kb w [(g6, #[.int .u64 p.id, .int .u64 p.nonce, .int .u64 (l3 p.bal : Nat), .int .u64 (l2 p.bal : Nat), .int .u64 (l1 p.bal : Nat), .int .u64 (l0 p.bal : Nat), .string (str p.code), .int .u64 (l3 p.value : Nat), .int .u64 (l2 p.value : Nat), .int .u64 (l1 p.value : Nat), .int .u64 (l0 p.value : Nat)], 45), (g5, #[.int .u64 p.id, .int .u64 p.nonce, .int .u64 (l3 p.bal : Nat), .int .u64 (l2 p.bal : Nat), .int .u64 (l1 p.bal : Nat), .int .u64 (l0 p.bal : Nat), .string (str p.code), .int .u64 (l3 p.value : Nat), .int .u64 (l2 p.value : Nat), .int .u64 (l1 p.value : Nat), .int .u64 (l0 p.value : Nat)], 42), (w.heap.size, #[.int .u64 a.id, .int .u64 a.nonce, .int .u64 (l3 a.bal : Nat), .int .u64 (l2 a.bal : Nat), .int .u64 (l1 a.bal : Nat), .int .u64 (l0 a.bal : Nat), .string (str a.code), .int .u64 (l3 a.value : Nat), .int .u64 (l2 a.value : Nat), .int .u64 (l1 a.value : Nat), .int .u64 (l0 a.value : Nat)], 42)] V) (fun _ => false) (by kernel_rfl) ?_
        refine Drawn.take 0 (some 82) (v := ?_) rfl rfl (by kernel_rfl) (by kernel_rfl) (by kernel_rfl) (by kernel_rfl) (by kernel_rfl) rfl (fun _ _ _ h => h) (Or.inl ⟨rfl, ?_⟩) H0 ?_
        rotate_left
        · intro W hW; have hW := HS.out W hW; go_simp; try with_reducible rfl
        simp only [put_list, List.set]
        refine Drawn.take 1 (some 83) (v := ?_) rfl rfl (by kernel_rfl) (by kernel_rfl) (by kernel_rfl) (by kernel_rfl) (by kernel_rfl) rfl (fun _ _ _ h => h) (Or.inl ⟨rfl, ?_⟩) H0 ?_
        rotate_left
        · intro W hW; have hW := HS.out W hW; go_simp; try with_reducible rfl
        simp only [put_list, List.set]
        refine Drawn.take 2 (some 84) (v := ?_) rfl rfl (by kernel_rfl) (by kernel_rfl) (by kernel_rfl) (by kernel_rfl) (by kernel_rfl) rfl (fun _ _ _ h => h) (Or.inl ⟨rfl, ?_⟩) H0 ?_
        rotate_left
        · intro W hW; have hW := HS.out W hW; go_simp; try with_reducible rfl
        simp only [put_list, List.set]
        refine Drawn.take 3 (some 85) (v := ?_) rfl rfl (by kernel_rfl) (by kernel_rfl) (by kernel_rfl) (by kernel_rfl) (by kernel_rfl) rfl (fun _ _ _ h => h) (Or.inl ⟨rfl, ?_⟩) H0 ?_
        rotate_left
        · intro W hW; have hW := HS.out W hW; go_simp; try with_reducible rfl
        simp only [put_list, List.set]
        refine Drawn.take 4 (some 86) (v := ?_) rfl rfl (by kernel_rfl) (by kernel_rfl) (by kernel_rfl) (by kernel_rfl) (by kernel_rfl) rfl (fun _ _ _ h => h) (Or.inl ⟨rfl, ?_⟩) H0 ?_
        rotate_left
        · intro W hW; have hW := HS.out W hW; go_simp; try with_reducible rfl
        simp only [put_list, List.set]
        refine Drawn.take 5 (some 87) (v := ?_) rfl rfl (by kernel_rfl) (by kernel_rfl) (by kernel_rfl) (by kernel_rfl) (by kernel_rfl) rfl (fun _ _ _ h => h) (Or.inl ⟨rfl, ?_⟩) H0 ?_
        rotate_left
        · intro W hW; have hW := HS.out W hW; go_simp; try with_reducible rfl
        simp only [put_list, List.set]
        refine Drawn.take 6 (some 88) (v := ?_) rfl rfl (by kernel_rfl) (by kernel_rfl) (by kernel_rfl) (by kernel_rfl) (by kernel_rfl) rfl (fun _ _ _ h => h) (Or.inl ⟨rfl, ?_⟩) H0 ?_
        rotate_left
        · intro W hW; have hW := HS.out W hW; go_simp; try with_reducible rfl
        simp only [put_list, List.set]
        refine Drawn.take 7 (some 89) (v := ?_) rfl rfl (by kernel_rfl) (by kernel_rfl) (by kernel_rfl) (by kernel_rfl) (by kernel_rfl) rfl (fun _ _ _ h => h) (Or.inl ⟨rfl, ?_⟩) H0 ?_
        rotate_left
        · intro W hW; have hW := HS.out W hW; go_simp; try with_reducible rfl
        simp only [put_list, List.set]
        refine Drawn.take 8 (some 90) (v := ?_) rfl rfl (by kernel_rfl) (by kernel_rfl) (by kernel_rfl) (by kernel_rfl) (by kernel_rfl) rfl (fun _ _ _ h => h) (Or.inl ⟨rfl, ?_⟩) H0 ?_
        rotate_left
        · intro W hW; have hW := HS.out W hW; go_simp; try with_reducible rfl
        simp only [put_list, List.set]
        refine Drawn.take 9 (some 91) (v := ?_) rfl rfl (by kernel_rfl) (by kernel_rfl) (by kernel_rfl) (by kernel_rfl) (by kernel_rfl) rfl (fun _ _ _ h => h) (Or.inl ⟨rfl, ?_⟩) H0 ?_
        rotate_left
        · intro W hW; have hW := HS.out W hW; go_simp; try with_reducible rfl
        simp only [put_list, List.set]
        refine Drawn.take 10 (some 92) (v := ?_) rfl rfl (by kernel_rfl) (by kernel_rfl) (by kernel_rfl) (by kernel_rfl) (by kernel_rfl) rfl (fun _ _ _ h => h) (Or.inl ⟨rfl, ?_⟩) H0 ?_
        rotate_left
        · intro W hW; have hW := HS.out W hW; go_simp; try with_reducible rfl
        simp only [put_list, List.set]
        refine Drawn.take 11 (some 93) (v := ?_) rfl rfl (by kernel_rfl) (by kernel_rfl) (by kernel_rfl) (by kernel_rfl) (by kernel_rfl) rfl (fun _ _ _ h => h) (Or.inl ⟨rfl, ?_⟩) H0 ?_
        rotate_left
        · intro W hW; have hW := HS.out W hW; go_simp; try with_reducible rfl
        simp only [put_list, List.set]
        refine Drawn.take 12 (some 94) (v := ?_) rfl rfl (by kernel_rfl) (by kernel_rfl) (by kernel_rfl) (by kernel_rfl) (by kernel_rfl) rfl (fun _ _ _ h => h) (Or.inl ⟨rfl, ?_⟩) H0 ?_
        rotate_left
        · intro W hW; have hW := HS.out W hW; go_simp; try with_reducible rfl
        simp only [put_list, List.set]
        refine Drawn.take 14 (some 96) (v := ?_) rfl rfl (by kernel_rfl) (by kernel_rfl) (by kernel_rfl) (by kernel_rfl) (by kernel_rfl) rfl (fun _ _ _ h => h) (Or.inl ⟨rfl, ?_⟩) H0 ?_
        rotate_left
        · intro W hW; have hW := HS.out W hW; go_simp; try with_reducible rfl
        simp only [put_list, List.set]
        refine Drawn.only 13 (by kernel_rfl) rfl rfl (fun K hK => ?_)
        go_simp
        refine (HRF.out _).mono ?_
        rintro e w9 ⟨rfl, hb⟩
        refine hK _ _ (fun _ _ => H0.call hb) ?_
        replace H0 := H0.call hb
        clear hK K hb
        try simp only [put_list, List.set]
        refine Drawn.take 15 (some 97) (v := ?_) rfl rfl (by kernel_rfl) (by kernel_rfl) (by kernel_rfl) (by kernel_rfl) (by kernel_rfl) rfl (fun _ _ _ h => h) (Or.inl ⟨rfl, ?_⟩) H0 ?_
        rotate_left
        · intro W hW; have hW := HS.out W hW; go_simp; try with_reducible rfl
        simp only [put_list, List.set]
        refine Drawn.take 16 (some 98) (v := ?_) rfl rfl (by kernel_rfl) (by kernel_rfl) (by kernel_rfl) (by kernel_rfl) (by kernel_rfl) rfl (fun _ _ _ h => h) (Or.inl ⟨rfl, ?_⟩) H0 ?_
        rotate_left
        · intro W hW; have hW := HS.out W hW; go_simp; try with_reducible rfl
        simp only [put_list, List.set]
        refine Drawn.take 17 (some 99) (v := ?_) rfl rfl (by kernel_rfl) (by kernel_rfl) (by kernel_rfl) (by kernel_rfl) (by kernel_rfl) rfl (fun _ _ _ h => h) (Or.inl ⟨rfl, ?_⟩) H0 ?_
        rotate_left
        · intro W hW; have hW := HS.out W hW; go_simp; try with_reducible rfl
        simp only [put_list, List.set]
        refine Drawn.take 18 (some 100) (v := ?_) rfl rfl (by kernel_rfl) (by kernel_rfl) (by kernel_rfl) (by kernel_rfl) (by kernel_rfl) rfl (fun _ _ _ h => h) (Or.inl ⟨rfl, ?_⟩) H0 ?_
        rotate_left
        · intro W hW; have hW := HS.out W hW; go_simp; try with_reducible rfl
        simp only [put_list, List.set]
        refine Drawn.take 19 (some 101) (v := ?_) rfl rfl (by kernel_rfl) (by kernel_rfl) (by kernel_rfl) (by kernel_rfl) (by kernel_rfl) rfl (fun _ _ _ h => h) (Or.inl ⟨rfl, ?_⟩) H0 ?_
        rotate_left
        · intro W hW; have hW := HS.out W hW; go_simp; try with_reducible rfl
        simp only [put_list, List.set]
        refine Drawn.take 20 (some 102) (v := ?_) rfl rfl (by kernel_rfl) (by kernel_rfl) (by kernel_rfl) (by kernel_rfl) (by kernel_rfl) rfl (fun _ _ _ h => h) (Or.inl ⟨rfl, ?_⟩) H0 ?_
        rotate_left
        · intro W hW; have hW := HS.out W hW; go_simp; try with_reducible rfl
        simp only [put_list, List.set]
        refine Drawn.take 21 (some 103) (v := ?_) rfl rfl (by kernel_rfl) (by kernel_rfl) (by kernel_rfl) (by kernel_rfl) (by kernel_rfl) rfl (fun _ _ _ h => h) (Or.inl ⟨rfl, ?_⟩) H0 ?_
        rotate_left
        · intro W hW; have hW := HS.out W hW; go_simp; try with_reducible rfl
        simp only [put_list, List.set]
        refine Drawn.take 22 (some 14) (v := ?_) rfl rfl (by kernel_rfl) (by kernel_rfl) (by kernel_rfl) (by kernel_rfl) (by kernel_rfl) rfl (fun _ _ _ h => h) (Or.inl ⟨rfl, ?_⟩) H0 ?_
        rotate_left
        · intro W hW; have hW := HS.out W hW; go_simp; try with_reducible rfl
        simp only [put_list, List.set]
        refine Drawn.done (by kernel_rfl) ?_ _
        have HB := Lib.hid H0.below
        clear H0 HS hre HRF K6
        go_wp2_with fail
        go_ret
        exact ⟨rfl, HB.out⟩
  · rw [putReplyV_no hok] at C2 ⊢
    go_wp2_with fail
    refine (C3.out _).mono ?_
    rintro e w3 ⟨rfl, hb⟩
    have K3 := Lib.hid (K2.out.call hb)
    clear hb K2 c0 c1 c2 c3 c4 c5 c6 c7 c8 c9 c10 C3
    go_wp2_with fail
    refine (C2.out _).mono ?_
    rintro e w4 ⟨rfl, hb⟩
    have K4 := Lib.hid (K3.out.call hb)
    clear hb K3 C2
    cases own
    · have HD1 := Lib.hid (fun V => getReply_c other s V)
      have HD2 := Lib.hid (fun V => rgetReply_c other s V)
      go_wp2_with fail
      refine (HD1.out _).mono ?_
      rintro e w5 ⟨o, ho, rfl, hb⟩
      rw [replyO_eq]
      obtain ⟨p, hp⟩ : ∃ p, p = o.getD ReplyP.zero := ⟨_, rfl⟩
      obtain ⟨q, hq⟩ : ∃ q, q = o.isSome := ⟨_, rfl⟩
      rw [← hp, ← hq]
      have K5 := Lib.hid ((K4.out.call hb).box #[.int .u64 p.id, .int .u64 p.nonce, .int .u64 (l3 p.bal : Nat), .int .u64 (l2 p.bal : Nat), .int .u64 (l1 p.bal : Nat), .int .u64 (l0 p.bal : Nat), .string (str p.code), .int .u64 (l3 p.value : Nat), .int .u64 (l2 p.value : Nat), .int .u64 (l1 p.value : Nat), .int .u64 (l0 p.value : Nat)] 42)
      have HO := Lib.hid (And.intro ho (And.intro hp hq))
      clear hb K4 ho hp hq HD1
      unfold replyV
      go_wp2_with fail
      refine (HD2.out _).mono ?_
      rintro e w6 ⟨o', ho', rfl, hb⟩
      obtain rfl := HO.out.1.one ho'
      rw [replyO_eq, ← HO.out.2.1, ← HO.out.2.2]
      have K6 := Lib.hid (((K5.out.call hb).box #[.int .u64 p.id, .int .u64 p.nonce, .int .u64 (l3 p.bal : Nat), .int .u64 (l2 p.bal : Nat), .int .u64 (l1 p.bal : Nat), .int .u64 (l0 p.bal : Nat), .string (str p.code), .int .u64 (l3 p.value : Nat), .int .u64 (l2 p.value : Nat), .int .u64 (l1 p.value : Nat), .int .u64 (l0 p.value : Nat)] 45).call (Below.refl _ _).drew)
      clear hb K5 ho' HO HD2
      unfold replyV
      go_wp2_with fail
      generalize w5.heap.size = g5 at *
      generalize w6.heap.size = g6 at *
      have H0 := K6.out
      have HRF := Lib.hid (fun V => refReply_c p V)
      have hre := req_reply p
      unfold replyV at HRF hre
      have HS := Lib.hid (fun (V : World) (hV : Kb w [(g6, #[.int .u64 p.id, .int .u64 p.nonce, .int .u64 (l3 p.bal : Nat), .int .u64 (l2 p.bal : Nat), .int .u64 (l1 p.bal : Nat), .int .u64 (l0 p.bal : Nat), .string (str p.code), .int .u64 (l3 p.value : Nat), .int .u64 (l2 p.value : Nat), .int .u64 (l1 p.value : Nat), .int .u64 (l0 p.value : Nat)], 45), (g5, #[.int .u64 p.id, .int .u64 p.nonce, .int .u64 (l3 p.bal : Nat), .int .u64 (l2 p.bal : Nat), .int .u64 (l1 p.bal : Nat), .int .u64 (l0 p.bal : Nat), .string (str p.code), .int .u64 (l3 p.value : Nat), .int .u64 (l2 p.value : Nat), .int .u64 (l1 p.value : Nat), .int .u64 (l0 p.value : Nat)], 42), (w.heap.size, #[.int .u64 a.id, .int .u64 a.nonce, .int .u64 (l3 a.bal : Nat), .int .u64 (l2 a.bal : Nat), .int .u64 (l1 a.bal : Nat), .int .u64 (l0 a.bal : Nat), .string (str a.code), .int .u64 (l3 a.value : Nat), .int .u64 (l2 a.value : Nat), .int .u64 (l1 a.value : Nat), .int .u64 (l0 a.value : Nat)], 42)] V) => And.intro (cells11 (hV.get (.tail _ (.head _)))).1 (cells11 (hV.get (.head _))).1)
      refine Drawn.start (fun V => Kb w [(g6, #[.int .u64 p.id, .int .u64 p.nonce, .int .u64 (l3 p.bal : Nat), .int .u64 (l2 p.bal : Nat), .int .u64 (l1 p.bal : Nat), .int .u64 (l0 p.bal : Nat), .string (str p.code), .int .u64 (l3 p.value : Nat), .int .u64 (l2 p.value : Nat), .int .u64 (l1 p.value : Nat), .int .u64 (l0 p.value : Nat)], 45), (g5, #[.int .u64 p.id, .int .u64 p.nonce, .int .u64 (l3 p.bal : Nat), .int .u64 (l2 p.bal : Nat), .int .u64 (l1 p.bal : Nat), .int .u64 (l0 p.bal : Nat), .string (str p.code), .int .u64 (l3 p.value : Nat), .int .u64 (l2 p.value : Nat), .int .u64 (l1 p.value : Nat), .int .u64 (l0 p.value : Nat)], 42), (w.heap.size, #[.int .u64 a.id, .int .u64 a.nonce, .int .u64 (l3 a.bal : Nat), .int .u64 (l2 a.bal : Nat), .int .u64 (l1 a.bal : Nat), .int .u64 (l0 a.bal : Nat), .string (str a.code), .int .u64 (l3 a.value : Nat), .int .u64 (l2 a.value : Nat), .int .u64 (l1 a.value : Nat), .int .u64 (l0 a.value : Nat)], 42)] V) (fun _ => false) (by kernel_rfl) ?_
      refine Drawn.take 0 (some 82) (v := ?_) rfl rfl (by kernel_rfl) (by kernel_rfl) (by kernel_rfl) (by kernel_rfl) (by kernel_rfl) rfl (fun _ _ _ h => h) (Or.inl ⟨rfl, ?_⟩) H0 ?_
      rotate_left
      · intro W hW; have hW := HS.out W hW; go_simp; try with_reducible rfl
      simp only [put_list, List.set]
      refine Drawn.take 1 (some 83) (v := ?_) rfl rfl (by kernel_rfl) (by kernel_rfl) (by kernel_rfl) (by kernel_rfl) (by kernel_rfl) rfl (fun _ _ _ h => h) (Or.inl ⟨rfl, ?_⟩) H0 ?_
      rotate_left
      · intro W hW; have hW := HS.out W hW; go_simp; try with_reducible rfl
      simp only [put_list, List.set]
      refine Drawn.take 2 (some 84) (v := ?_) rfl rfl (by kernel_rfl) (by kernel_rfl) (by kernel_rfl) (by kernel_rfl) (by kernel_rfl) rfl (fun _ _ _ h => h) (Or.inl ⟨rfl, ?_⟩) H0 ?_
      rotate_left
      · intro W hW; have hW := HS.out W hW; go_simp; try with_reducible rfl
      simp only [put_list, List.set]
      refine Drawn.take 3 (some 85) (v := ?_) rfl rfl (by kernel_rfl) (by kernel_rfl) (by kernel_rfl) (by kernel_rfl) (by kernel_rfl) rfl (fun _ _ _ h => h) (Or.inl ⟨rfl, ?_⟩) H0 ?_
      rotate_left
      · intro W hW; have hW := HS.out W hW; go_simp; try with_reducible rfl
      simp only [put_list, List.set]
      refine Drawn.take 4 (some 86) (v := ?_) rfl rfl (by kernel_rfl) (by kernel_rfl) (by kernel_rfl) (by kernel_rfl) (by kernel_rfl) rfl (fun _ _ _ h => h) (Or.inl ⟨rfl, ?_⟩) H0 ?_
      rotate_left
      · intro W hW; have hW := HS.out W hW; go_simp; try with_reducible rfl
      simp only [put_list, List.set]
      refine Drawn.take 5 (some 87) (v := ?_) rfl rfl (by kernel_rfl) (by kernel_rfl) (by kernel_rfl) (by kernel_rfl) (by kernel_rfl) rfl (fun _ _ _ h => h) (Or.inl ⟨rfl, ?_⟩) H0 ?_
      rotate_left
      · intro W hW; have hW := HS.out W hW; go_simp; try with_reducible rfl
      simp only [put_list, List.set]
      refine Drawn.take 6 (some 88) (v := ?_) rfl rfl (by kernel_rfl) (by kernel_rfl) (by kernel_rfl) (by kernel_rfl) (by kernel_rfl) rfl (fun _ _ _ h => h) (Or.inl ⟨rfl, ?_⟩) H0 ?_
      rotate_left
      · intro W hW; have hW := HS.out W hW; go_simp; try with_reducible rfl
      simp only [put_list, List.set]
      refine Drawn.take 7 (some 89) (v := ?_) rfl rfl (by kernel_rfl) (by kernel_rfl) (by kernel_rfl) (by kernel_rfl) (by kernel_rfl) rfl (fun _ _ _ h => h) (Or.inl ⟨rfl, ?_⟩) H0 ?_
      rotate_left
      · intro W hW; have hW := HS.out W hW; go_simp; try with_reducible rfl
      simp only [put_list, List.set]
      refine Drawn.take 8 (some 90) (v := ?_) rfl rfl (by kernel_rfl) (by kernel_rfl) (by kernel_rfl) (by kernel_rfl) (by kernel_rfl) rfl (fun _ _ _ h => h) (Or.inl ⟨rfl, ?_⟩) H0 ?_
      rotate_left
      · intro W hW; have hW := HS.out W hW; go_simp; try with_reducible rfl
      simp only [put_list, List.set]
      refine Drawn.take 9 (some 91) (v := ?_) rfl rfl (by kernel_rfl) (by kernel_rfl) (by kernel_rfl) (by kernel_rfl) (by kernel_rfl) rfl (fun _ _ _ h => h) (Or.inl ⟨rfl, ?_⟩) H0 ?_
      rotate_left
      · intro W hW; have hW := HS.out W hW; go_simp; try with_reducible rfl
      simp only [put_list, List.set]
      refine Drawn.take 10 (some 92) (v := ?_) rfl rfl (by kernel_rfl) (by kernel_rfl) (by kernel_rfl) (by kernel_rfl) (by kernel_rfl) rfl (fun _ _ _ h => h) (Or.inl ⟨rfl, ?_⟩) H0 ?_
      rotate_left
      · intro W hW; have hW := HS.out W hW; go_simp; try with_reducible rfl
      simp only [put_list, List.set]
      refine Drawn.take 11 (some 93) (v := ?_) rfl rfl (by kernel_rfl) (by kernel_rfl) (by kernel_rfl) (by kernel_rfl) (by kernel_rfl) rfl (fun _ _ _ h => h) (Or.inl ⟨rfl, ?_⟩) H0 ?_
      rotate_left
      · intro W hW; have hW := HS.out W hW; go_simp; try with_reducible rfl
      simp only [put_list, List.set]
      refine Drawn.take 12 (some 94) (v := ?_) rfl rfl (by kernel_rfl) (by kernel_rfl) (by kernel_rfl) (by kernel_rfl) (by kernel_rfl) rfl (fun _ _ _ h => h) (Or.inl ⟨rfl, ?_⟩) H0 ?_
      rotate_left
      · intro W hW; have hW := HS.out W hW; go_simp; try with_reducible rfl
      simp only [put_list, List.set]
      refine Drawn.take 14 (some 96) (v := ?_) rfl rfl (by kernel_rfl) (by kernel_rfl) (by kernel_rfl) (by kernel_rfl) (by kernel_rfl) rfl (fun _ _ _ h => h) (Or.inl ⟨rfl, ?_⟩) H0 ?_
      rotate_left
      · intro W hW; have hW := HS.out W hW; go_simp; try with_reducible rfl
      simp only [put_list, List.set]
      refine Drawn.only 13 (by kernel_rfl) rfl rfl (fun K hK => ?_)
      go_simp
      refine (HRF.out _).mono ?_
      rintro e w9 ⟨rfl, hb⟩
      refine hK _ _ (fun _ _ => H0.call hb) ?_
      replace H0 := H0.call hb
      clear hK K hb
      try simp only [put_list, List.set]
      refine Drawn.take 15 (some 97) (v := ?_) rfl rfl (by kernel_rfl) (by kernel_rfl) (by kernel_rfl) (by kernel_rfl) (by kernel_rfl) rfl (fun _ _ _ h => h) (Or.inl ⟨rfl, ?_⟩) H0 ?_
      rotate_left
      · intro W hW; have hW := HS.out W hW; go_simp; try with_reducible rfl
      simp only [put_list, List.set]
      refine Drawn.take 16 (some 98) (v := ?_) rfl rfl (by kernel_rfl) (by kernel_rfl) (by kernel_rfl) (by kernel_rfl) (by kernel_rfl) rfl (fun _ _ _ h => h) (Or.inl ⟨rfl, ?_⟩) H0 ?_
      rotate_left
      · intro W hW; have hW := HS.out W hW; go_simp; try with_reducible rfl
      simp only [put_list, List.set]
      refine Drawn.take 17 (some 99) (v := ?_) rfl rfl (by kernel_rfl) (by kernel_rfl) (by kernel_rfl) (by kernel_rfl) (by kernel_rfl) rfl (fun _ _ _ h => h) (Or.inl ⟨rfl, ?_⟩) H0 ?_
      rotate_left
      · intro W hW; have hW := HS.out W hW; go_simp; try with_reducible rfl
      simp only [put_list, List.set]
      refine Drawn.take 18 (some 100) (v := ?_) rfl rfl (by kernel_rfl) (by kernel_rfl) (by kernel_rfl) (by kernel_rfl) (by kernel_rfl) rfl (fun _ _ _ h => h) (Or.inl ⟨rfl, ?_⟩) H0 ?_
      rotate_left
      · intro W hW; have hW := HS.out W hW; go_simp; try with_reducible rfl
      simp only [put_list, List.set]
      refine Drawn.take 19 (some 101) (v := ?_) rfl rfl (by kernel_rfl) (by kernel_rfl) (by kernel_rfl) (by kernel_rfl) (by kernel_rfl) rfl (fun _ _ _ h => h) (Or.inl ⟨rfl, ?_⟩) H0 ?_
      rotate_left
      · intro W hW; have hW := HS.out W hW; go_simp; try with_reducible rfl
      simp only [put_list, List.set]
      refine Drawn.take 20 (some 102) (v := ?_) rfl rfl (by kernel_rfl) (by kernel_rfl) (by kernel_rfl) (by kernel_rfl) (by kernel_rfl) rfl (fun _ _ _ h => h) (Or.inl ⟨rfl, ?_⟩) H0 ?_
      rotate_left
      · intro W hW; have hW := HS.out W hW; go_simp; try with_reducible rfl
      simp only [put_list, List.set]
      refine Drawn.take 21 (some 103) (v := ?_) rfl rfl (by kernel_rfl) (by kernel_rfl) (by kernel_rfl) (by kernel_rfl) (by kernel_rfl) rfl (fun _ _ _ h => h) (Or.inl ⟨rfl, ?_⟩) H0 ?_
      rotate_left
      · intro W hW; have hW := HS.out W hW; go_simp; try with_reducible rfl
      simp only [put_list, List.set]
      refine Drawn.take 22 (some 14) (v := ?_) rfl rfl (by kernel_rfl) (by kernel_rfl) (by kernel_rfl) (by kernel_rfl) (by kernel_rfl) rfl (fun _ _ _ h => h) (Or.inl ⟨rfl, ?_⟩) H0 ?_
      rotate_left
      · intro W hW; have hW := HS.out W hW; go_simp; try with_reducible rfl
      simp only [put_list, List.set]
      refine Drawn.done (by kernel_rfl) ?_ _
      have HB := Lib.hid H0.below
      clear H0 HS hre HRF K6
      go_wp2_with fail
      go_ret
      exact ⟨rfl, HB.out⟩
    · have HD1 := Lib.hid (fun V => getReply_c other s V)
      have HD2 := Lib.hid (fun V => rgetReply_c other s V)
      go_wp2_with fail
      refine (HD1.out _).mono ?_
      rintro e w5 ⟨o, ho, rfl, hb⟩
      rw [replyO_eq]
      obtain ⟨p, hp⟩ : ∃ p, p = o.getD ReplyP.zero := ⟨_, rfl⟩
      obtain ⟨q, hq⟩ : ∃ q, q = o.isSome := ⟨_, rfl⟩
      rw [← hp, ← hq]
      have K5 := Lib.hid ((K4.out.call hb).box #[.int .u64 p.id, .int .u64 p.nonce, .int .u64 (l3 p.bal : Nat), .int .u64 (l2 p.bal : Nat), .int .u64 (l1 p.bal : Nat), .int .u64 (l0 p.bal : Nat), .string (str p.code), .int .u64 (l3 p.value : Nat), .int .u64 (l2 p.value : Nat), .int .u64 (l1 p.value : Nat), .int .u64 (l0 p.value : Nat)] 42)
      have HO := Lib.hid (And.intro ho (And.intro hp hq))
      clear hb K4 ho hp hq HD1
      unfold replyV
      go_wp2_with fail
      refine (HD2.out _).mono ?_
      rintro e w6 ⟨o', ho', rfl, hb⟩
      obtain rfl := HO.out.1.one ho'
      rw [replyO_eq, ← HO.out.2.1, ← HO.out.2.2]
      have K6 := Lib.hid (((K5.out.call hb).box #[.int .u64 p.id, .int .u64 p.nonce, .int .u64 (l3 p.bal : Nat), .int .u64 (l2 p.bal : Nat), .int .u64 (l1 p.bal : Nat), .int .u64 (l0 p.bal : Nat), .string (str p.code), .int .u64 (l3 p.value : Nat), .int .u64 (l2 p.value : Nat), .int .u64 (l1 p.value : Nat), .int .u64 (l0 p.value : Nat)] 45).call (Below.refl _ _).drew)
      clear hb K5 ho' HO HD2
      unfold replyV
      go_wp2_with fail
      generalize w5.heap.size = g5 at *
      generalize w6.heap.size = g6 at *
      have H0 := K6.out
      have HRF := Lib.hid (fun V => refReply_c p V)
      have hre := req_reply p
      unfold replyV at HRF hre
      have HS := Lib.hid (fun (V : World) (hV : Kb w [(g6, #[.int .u64 p.id, .int .u64 p.nonce, .int .u64 (l3 p.bal : Nat), .int .u64 (l2 p.bal : Nat), .int .u64 (l1 p.bal : Nat), .int .u64 (l0 p.bal : Nat), .string (str p.code), .int .u64 (l3 p.value : Nat), .int .u64 (l2 p.value : Nat), .int .u64 (l1 p.value : Nat), .int .u64 (l0 p.value : Nat)], 45), (g5, #[.int .u64 p.id, .int .u64 p.nonce, .int .u64 (l3 p.bal : Nat), .int .u64 (l2 p.bal : Nat), .int .u64 (l1 p.bal : Nat), .int .u64 (l0 p.bal : Nat), .string (str p.code), .int .u64 (l3 p.value : Nat), .int .u64 (l2 p.value : Nat), .int .u64 (l1 p.value : Nat), .int .u64 (l0 p.value : Nat)], 42), (w.heap.size, #[.int .u64 a.id, .int .u64 a.nonce, .int .u64 (l3 a.bal : Nat), .int .u64 (l2 a.bal : Nat), .int .u64 (l1 a.bal : Nat), .int .u64 (l0 a.bal : Nat), .string (str a.code), .int .u64 (l3 a.value : Nat), .int .u64 (l2 a.value : Nat), .int .u64 (l1 a.value : Nat), .int .u64 (l0 a.value : Nat)], 42)] V) => And.intro (cells11 (hV.get (.tail _ (.head _)))).1 (cells11 (hV.get (.head _))).1)
      refine Drawn.start (fun V => Kb w [(g6, #[.int .u64 p.id, .int .u64 p.nonce, .int .u64 (l3 p.bal : Nat), .int .u64 (l2 p.bal : Nat), .int .u64 (l1 p.bal : Nat), .int .u64 (l0 p.bal : Nat), .string (str p.code), .int .u64 (l3 p.value : Nat), .int .u64 (l2 p.value : Nat), .int .u64 (l1 p.value : Nat), .int .u64 (l0 p.value : Nat)], 45), (g5, #[.int .u64 p.id, .int .u64 p.nonce, .int .u64 (l3 p.bal : Nat), .int .u64 (l2 p.bal : Nat), .int .u64 (l1 p.bal : Nat), .int .u64 (l0 p.bal : Nat), .string (str p.code), .int .u64 (l3 p.value : Nat), .int .u64 (l2 p.value : Nat), .int .u64 (l1 p.value : Nat), .int .u64 (l0 p.value : Nat)], 42), (w.heap.size, #[.int .u64 a.id, .int .u64 a.nonce, .int .u64 (l3 a.bal : Nat), .int .u64 (l2 a.bal : Nat), .int .u64 (l1 a.bal : Nat), .int .u64 (l0 a.bal : Nat), .string (str a.code), .int .u64 (l3 a.value : Nat), .int .u64 (l2 a.value : Nat), .int .u64 (l1 a.value : Nat), .int .u64 (l0 a.value : Nat)], 42)] V) (fun _ => false) (by kernel_rfl) ?_
      refine Drawn.take 0 (some 82) (v := ?_) rfl rfl (by kernel_rfl) (by kernel_rfl) (by kernel_rfl) (by kernel_rfl) (by kernel_rfl) rfl (fun _ _ _ h => h) (Or.inl ⟨rfl, ?_⟩) H0 ?_
      rotate_left
      · intro W hW; have hW := HS.out W hW; go_simp; try with_reducible rfl
      simp only [put_list, List.set]
      refine Drawn.take 1 (some 83) (v := ?_) rfl rfl (by kernel_rfl) (by kernel_rfl) (by kernel_rfl) (by kernel_rfl) (by kernel_rfl) rfl (fun _ _ _ h => h) (Or.inl ⟨rfl, ?_⟩) H0 ?_
      rotate_left
      · intro W hW; have hW := HS.out W hW; go_simp; try with_reducible rfl
      simp only [put_list, List.set]
      refine Drawn.take 2 (some 84) (v := ?_) rfl rfl (by kernel_rfl) (by kernel_rfl) (by kernel_rfl) (by kernel_rfl) (by kernel_rfl) rfl (fun _ _ _ h => h) (Or.inl ⟨rfl, ?_⟩) H0 ?_
      rotate_left
      · intro W hW; have hW := HS.out W hW; go_simp; try with_reducible rfl
      simp only [put_list, List.set]
      refine Drawn.take 3 (some 85) (v := ?_) rfl rfl (by kernel_rfl) (by kernel_rfl) (by kernel_rfl) (by kernel_rfl) (by kernel_rfl) rfl (fun _ _ _ h => h) (Or.inl ⟨rfl, ?_⟩) H0 ?_
      rotate_left
      · intro W hW; have hW := HS.out W hW; go_simp; try with_reducible rfl
      simp only [put_list, List.set]
      refine Drawn.take 4 (some 86) (v := ?_) rfl rfl (by kernel_rfl) (by kernel_rfl) (by kernel_rfl) (by kernel_rfl) (by kernel_rfl) rfl (fun _ _ _ h => h) (Or.inl ⟨rfl, ?_⟩) H0 ?_
      rotate_left
      · intro W hW; have hW := HS.out W hW; go_simp; try with_reducible rfl
      simp only [put_list, List.set]
      refine Drawn.take 5 (some 87) (v := ?_) rfl rfl (by kernel_rfl) (by kernel_rfl) (by kernel_rfl) (by kernel_rfl) (by kernel_rfl) rfl (fun _ _ _ h => h) (Or.inl ⟨rfl, ?_⟩) H0 ?_
      rotate_left
      · intro W hW; have hW := HS.out W hW; go_simp; try with_reducible rfl
      simp only [put_list, List.set]
      refine Drawn.take 6 (some 88) (v := ?_) rfl rfl (by kernel_rfl) (by kernel_rfl) (by kernel_rfl) (by kernel_rfl) (by kernel_rfl) rfl (fun _ _ _ h => h) (Or.inl ⟨rfl, ?_⟩) H0 ?_
      rotate_left
      · intro W hW; have hW := HS.out W hW; go_simp; try with_reducible rfl
      simp only [put_list, List.set]
      refine Drawn.take 7 (some 89) (v := ?_) rfl rfl (by kernel_rfl) (by kernel_rfl) (by kernel_rfl) (by kernel_rfl) (by kernel_rfl) rfl (fun _ _ _ h => h) (Or.inl ⟨rfl, ?_⟩) H0 ?_
      rotate_left
      · intro W hW; have hW := HS.out W hW; go_simp; try with_reducible rfl
      simp only [put_list, List.set]
      refine Drawn.take 8 (some 90) (v := ?_) rfl rfl (by kernel_rfl) (by kernel_rfl) (by kernel_rfl) (by kernel_rfl) (by kernel_rfl) rfl (fun _ _ _ h => h) (Or.inl ⟨rfl, ?_⟩) H0 ?_
      rotate_left
      · intro W hW; have hW := HS.out W hW; go_simp; try with_reducible rfl
      simp only [put_list, List.set]
      refine Drawn.take 9 (some 91) (v := ?_) rfl rfl (by kernel_rfl) (by kernel_rfl) (by kernel_rfl) (by kernel_rfl) (by kernel_rfl) rfl (fun _ _ _ h => h) (Or.inl ⟨rfl, ?_⟩) H0 ?_
      rotate_left
      · intro W hW; have hW := HS.out W hW; go_simp; try with_reducible rfl
      simp only [put_list, List.set]
      refine Drawn.take 10 (some 92) (v := ?_) rfl rfl (by kernel_rfl) (by kernel_rfl) (by kernel_rfl) (by kernel_rfl) (by kernel_rfl) rfl (fun _ _ _ h => h) (Or.inl ⟨rfl, ?_⟩) H0 ?_
      rotate_left
      · intro W hW; have hW := HS.out W hW; go_simp; try with_reducible rfl
      simp only [put_list, List.set]
      refine Drawn.take 11 (some 93) (v := ?_) rfl rfl (by kernel_rfl) (by kernel_rfl) (by kernel_rfl) (by kernel_rfl) (by kernel_rfl) rfl (fun _ _ _ h => h) (Or.inl ⟨rfl, ?_⟩) H0 ?_
      rotate_left
      · intro W hW; have hW := HS.out W hW; go_simp; try with_reducible rfl
      simp only [put_list, List.set]
      refine Drawn.take 12 (some 94) (v := ?_) rfl rfl (by kernel_rfl) (by kernel_rfl) (by kernel_rfl) (by kernel_rfl) (by kernel_rfl) rfl (fun _ _ _ h => h) (Or.inl ⟨rfl, ?_⟩) H0 ?_
      rotate_left
      · intro W hW; have hW := HS.out W hW; go_simp; try with_reducible rfl
      simp only [put_list, List.set]
      refine Drawn.take 14 (some 96) (v := ?_) rfl rfl (by kernel_rfl) (by kernel_rfl) (by kernel_rfl) (by kernel_rfl) (by kernel_rfl) rfl (fun _ _ _ h => h) (Or.inl ⟨rfl, ?_⟩) H0 ?_
      rotate_left
      · intro W hW; have hW := HS.out W hW; go_simp; try with_reducible rfl
      simp only [put_list, List.set]
      refine Drawn.only 13 (by kernel_rfl) rfl rfl (fun K hK => ?_)
      go_simp
      refine (HRF.out _).mono ?_
      rintro e w9 ⟨rfl, hb⟩
      refine hK _ _ (fun _ _ => H0.call hb) ?_
      replace H0 := H0.call hb
      clear hK K hb
      try simp only [put_list, List.set]
      refine Drawn.take 15 (some 97) (v := ?_) rfl rfl (by kernel_rfl) (by kernel_rfl) (by kernel_rfl) (by kernel_rfl) (by kernel_rfl) rfl (fun _ _ _ h => h) (Or.inl ⟨rfl, ?_⟩) H0 ?_
      rotate_left
      · intro W hW; have hW := HS.out W hW; go_simp; try with_reducible rfl
      simp only [put_list, List.set]
      refine Drawn.take 16 (some 98) (v := ?_) rfl rfl (by kernel_rfl) (by kernel_rfl) (by kernel_rfl) (by kernel_rfl) (by kernel_rfl) rfl (fun _ _ _ h => h) (Or.inl ⟨rfl, ?_⟩) H0 ?_
      rotate_left
      · intro W hW; have hW := HS.out W hW; go_simp; try with_reducible rfl
      simp only [put_list, List.set]
      refine Drawn.take 17 (some 99) (v := ?_) rfl rfl (by kernel_rfl) (by kernel_rfl) (by kernel_rfl) (by kernel_rfl) (by kernel_rfl) rfl (fun _ _ _ h => h) (Or.inl ⟨rfl, ?_⟩) H0 ?_
      rotate_left
      · intro W hW; have hW := HS.out W hW; go_simp; try with_reducible rfl
      simp only [put_list, List.set]
      refine Drawn.take 18 (some 100) (v := ?_) rfl rfl (by kernel_rfl) (by kernel_rfl) (by kernel_rfl) (by kernel_rfl) (by kernel_rfl) rfl (fun _ _ _ h => h) (Or.inl ⟨rfl, ?_⟩) H0 ?_
      rotate_left
      · intro W hW; have hW := HS.out W hW; go_simp; try with_reducible rfl
      simp only [put_list, List.set]
      refine Drawn.take 19 (some 101) (v := ?_) rfl rfl (by kernel_rfl) (by kernel_rfl) (by kernel_rfl) (by kernel_rfl) (by kernel_rfl) rfl (fun _ _ _ h => h) (Or.inl ⟨rfl, ?_⟩) H0 ?_
      rotate_left
      · intro W hW; have hW := HS.out W hW; go_simp; try with_reducible rfl
      simp only [put_list, List.set]
      refine Drawn.take 20 (some 102) (v := ?_) rfl rfl (by kernel_rfl) (by kernel_rfl) (by kernel_rfl) (by kernel_rfl) (by kernel_rfl) rfl (fun _ _ _ h => h) (Or.inl ⟨rfl, ?_⟩) H0 ?_
      rotate_left
      · intro W hW; have hW := HS.out W hW; go_simp; try with_reducible rfl
      simp only [put_list, List.set]
      refine Drawn.take 21 (some 103) (v := ?_) rfl rfl (by kernel_rfl) (by kernel_rfl) (by kernel_rfl) (by kernel_rfl) (by kernel_rfl) rfl (fun _ _ _ h => h) (Or.inl ⟨rfl, ?_⟩) H0 ?_
      rotate_left
      · intro W hW; have hW := HS.out W hW; go_simp; try with_reducible rfl
      simp only [put_list, List.set]
      refine Drawn.take 22 (some 14) (v := ?_) rfl rfl (by kernel_rfl) (by kernel_rfl) (by kernel_rfl) (by kernel_rfl) (by kernel_rfl) rfl (fun _ _ _ h => h) (Or.inl ⟨rfl, ?_⟩) H0 ?_
      rotate_left
      · intro W hW; have hW := HS.out W hW; go_simp; try with_reducible rfl
      simp only [put_list, List.set]
      refine Drawn.done (by kernel_rfl) ?_ _
      have HB := Lib.hid H0.below
      clear H0 HS hre HRF K6
      go_wp2_with fail
      go_ret
      exact ⟨rfl, HB.out⟩
theorem repliesA_c (kind other : Int) (i : Nat) (hi : i < M64) (k : Nat) (hk : k < M64) (n : Nat) (hn : n < W256) (d : ByteArray) (m : Nat) (hm : m < W256) (s : ByteArray) (own : Bool) (at3 : Int) (hat : -9223372036854775808 ≤ at3 ∧ at3 ≤ 9223372036854775807) (by4 : Nat) (hby : by4 < 256) (w : World) :
    Calls Try.prog 4 #[.int .i64 kind, .int .i64 other, .agg #[.int .u64 i, .int .u64 k, .int .u64 (l3 n : Nat), .int .u64 (l2 n : Nat), .int .u64 (l1 n : Nat), .int .u64 (l0 n : Nat), .string d, .int .u64 (l3 m : Nat), .int .u64 (l2 m : Nat), .int .u64 (l1 m : Nat), .int .u64 (l0 m : Nat)], .string s, .bool own, .int .i64 at3, .int .u8 by4] w fun e w' => e = .returned (.bool true) ∧ Below w.heap.size w w' := by
  have h := replies_c kind other (a := ⟨i, k, n, d.data.toList, m⟩) ⟨hi, hk, hn, hm⟩ s.data.toList own at3 hat by4 hby w
  unfold replyV at h
  rwa [str_of', str_of'] at h
end Go.Proofs.Ytbhijjegkpjkcaa
end
