/- Merged: Vy, Ce. -/
import Derived.Test.YtbhijjegkpjkcaaW16
import Derived.Test.YtbhijjegkpjkcaaW07
section
namespace Go.Proofs.Ytbhijjegkpjkcaa
open Go.RowKit

theorem req_ask (a : AskP) (w : World) : (binOp .eql 31 (askV a) (askV a)).run Try.prog w = .ok (.bool true) w := by
  have u3 := Try.underlying22
  have a3' := Try.isAgg22
  have z3 := Try.sizeOf22
  have u4 := Try.underlying3
  have a4' := Try.isAgg3
  have z4 := Try.sizeOf3
  have u9 := Try.underlying9
  have a9 := Try.isAgg9
  have z9 := Try.sizeOf9
  have uW := Try.underlying24
  have aW := Try.isAgg24
  have zW := Try.sizeOf24
  have hS : Try.prog.underlying 31 = some (.struct (Try.prog.fieldsOf 31)) := by kernel_rfl
  have hp : Try.prog.stoodInHeld 31 = false := by kernel_rfl
  have hSW : Try.prog.underlying 24 = some (.struct (Try.prog.fieldsOf 24)) := by kernel_rfl
  have hpW : Try.prog.stoodInHeld 24 = false := by kernel_rfl
  unfold askV
  rw [run_eql_struct, show (10000 : Nat) = 9999 + 1 from rfl, run_equalIn_agg w 9999 31 _ _ hS hp]
  simp only [Program.fieldsOf, Try.underlying31]
  go_simp
set_option maxRecDepth 100000 in
theorem refAsk_c (a : AskP) (w : World) : Calls Try.prog 11 #[askV a] w fun e w' => e = .returned (askV a) ∧ Below w.heap.size w w' := by
  have h0 : Below w.heap.size w ((w.alloc (.cells (askCells a) 26)).alloc (.cells (askCells a) 31)) := ((Below.refl _ _).alloc (Nat.le_refl _) _).alloc (by simp) _
  have h1 := heap_alloc2_new w (.cells (askCells a) 26) (.cells (askCells a) 31)
  have h2 : ((w.alloc (.cells (askCells a) 26)).alloc (.cells #[.int .u64 0, .string ⟨#[]⟩, .int .u64 0, .int .u64 0, .int .u64 0, .int .u64 0, .int .i64 0] 31)).heap[w.heap.size]? = some (.cells (askCells a) 26 (0, 0)) := heap_alloc2_old w _ _
  have h3 := heap_alloc2_new w (.cells (askCells a) 26) (.cells #[.int .u64 0, .string ⟨#[]⟩, .int .u64 0, .int .u64 0, .int .u64 0, .int .u64 0, .int .i64 0] 31)
  unfold askCells at h0 h1 h2 h3
  have H := Lib.hid (And.intro h0 h1)
  obtain ⟨⟨c0, c1, c2, c3, c4, c5, c6⟩, _⟩ := cells7 h2
  obtain ⟨_, z0, z1, z2, z3, z4, z5, z6⟩ := cells7 h3
  clear h0 h1 h2 h3
  unfold askV
  go_enter Try.func11, Try.ntmps11
  go_wp2_with fail
  exact bodyPost_ret (results_cell_row Try.results11 _ _ _ _ _ _ _ rfl H.out.2 Try.underlying31 rfl (by kernel_rfl)) rfl ⟨rfl, H.out.1⟩
theorem askO_eq (o : Option AskP) : askO o = .tuple #[askV (o.getD AskP.zero), .bool o.isSome] := by
  cases o with
  | some a => rfl
  | none =>
    show askO none = .tuple #[askV AskP.zero, .bool false]
    unfold askO askV AskP.zero
    simp [lim_zero]
    rfl
set_option maxRecDepth 100000 in
set_option maxHeartbeats 8000000 in
theorem asks_c {a : AskP} (hw : a.Wf) (s : List UInt8) (own : Bool) (at3 : Int) (hat : -9223372036854775808 ≤ at3 ∧ at3 ≤ 9223372036854775807) (by4 : Nat) (hby : by4 < 256) (w : World) :
    Calls Try.prog 3 #[askV a, .string (str s), .bool own, .int .i64 at3, .int .u8 by4] w fun e w' => e = .returned (.bool true) ∧ Below w.heap.size w w' := by
  have C1 := Lib.hid (fun V => putAsk_c hw V)
  have C2 := Lib.hid (fun V => rputAsk_c hw V)
  have C3 := Lib.hid (fun V => refAsk_c a V)
  have hel := Lib.hid (fun (h : a.Ok) => AskP.enc_len hw h)
  have K0 := Lib.hid ((Kb.start w).box #[.int .u64 a.id, .string (str a.addr), .int .u64 (l3 a.slot : Nat), .int .u64 (l2 a.slot : Nat), .int .u64 (l1 a.slot : Nat), .int .u64 (l0 a.slot : Nat), .int .i64 a.kind] 26)
  have HAT := Lib.hid hat
  have HBY := Lib.hid hby
  clear hw hat hby
  unfold askV at *
  go_enter Try.func3, Try.ntmps3
  go_wp2_with fail
  refine (examples_c _).mono ?_
  rintro e w1 ⟨rfl, hb⟩
  have K1 := Lib.hid (K0.out.call hb)
  clear hb K0
  obtain ⟨⟨c0, c1, c2, c3, c4, c5, c6⟩, _⟩ := cells7 (K1.out.get (.head _))
  go_wp2_with fail
  refine (C1.out _).mono ?_
  rintro e w2 ⟨rfl, hb⟩
  have K2 := Lib.hid (K1.out.call hb)
  clear hb K1 c0 c1 c2 c3 c4 c5 c6 C1
  obtain ⟨⟨c0, c1, c2, c3, c4, c5, c6⟩, _⟩ := cells7 (K2.out.get (.head _))
  by_cases hok : a.Ok
  · rw [putAskV_ok hok] at C2 ⊢
    have hemp : a.enc ≠ [] := enc_nil a
    go_wp2_with fail
    refine (C3.out _).mono ?_
    rintro e w3 ⟨rfl, hb⟩
    have K3 := Lib.hid (K2.out.call hb)
    clear hb K2 c0 c1 c2 c3 c4 c5 c6 C3
    go_wp2_with fail
    refine (C2.out _).mono ?_
    rintro e w4 ⟨rfl, hb⟩
    have K4 := Lib.hid (K3.out.call hb)
    clear hb K3 C2
    have hne : ((str a.enc).toList.isEmpty) = false := by
      rw [show (str a.enc).toList = a.enc by rw [ByteArray.toList_eq]; simp [str]]
      cases h : a.enc with
      | nil => exact absurd h hemp
      | cons x y => rfl
    cases own
    · clear hne
      have HD1 := Lib.hid (fun V => getAsk_c s V)
      have HD2 := Lib.hid (fun V => rgetAsk_c s V)
      go_wp2_with fail
      refine (HD1.out _).mono ?_
      rintro e w5 ⟨o, ho, rfl, hb⟩
      rw [askO_eq]
      obtain ⟨p, hp⟩ : ∃ p, p = o.getD AskP.zero := ⟨_, rfl⟩
      obtain ⟨q, hq⟩ : ∃ q, q = o.isSome := ⟨_, rfl⟩
      rw [← hp, ← hq]
      have K5 := Lib.hid ((K4.out.call hb).box #[.int .u64 p.id, .string (str p.addr), .int .u64 (l3 p.slot : Nat), .int .u64 (l2 p.slot : Nat), .int .u64 (l1 p.slot : Nat), .int .u64 (l0 p.slot : Nat), .int .i64 p.kind] 26)
      have HO := Lib.hid (And.intro ho (And.intro hp hq))
      clear hb K4 ho hp hq HD1
      unfold askV
      go_wp2_with fail
      refine (HD2.out _).mono ?_
      rintro e w6 ⟨o', ho', rfl, hb⟩
      obtain rfl := HO.out.1.one ho'
      rw [askO_eq, ← HO.out.2.1, ← HO.out.2.2]
      have K6 := Lib.hid (((K5.out.call hb).box #[.int .u64 p.id, .string (str p.addr), .int .u64 (l3 p.slot : Nat), .int .u64 (l2 p.slot : Nat), .int .u64 (l1 p.slot : Nat), .int .u64 (l0 p.slot : Nat), .int .i64 p.kind] 31).call (Below.refl _ _).drew)
      clear hb K5 ho' HO HD2
      unfold askV
      go_wp2_with fail
      generalize w5.heap.size = g5 at *
      generalize w6.heap.size = g6 at *
      have H0 := K6.out
      have HRF := Lib.hid (fun V => refAsk_c p V)
      have hre := req_ask p
      unfold askV at HRF hre
      have HS := Lib.hid (fun (V : World) (hV : Kb w [(g6, #[.int .u64 p.id, .string (str p.addr), .int .u64 (l3 p.slot : Nat), .int .u64 (l2 p.slot : Nat), .int .u64 (l1 p.slot : Nat), .int .u64 (l0 p.slot : Nat), .int .i64 p.kind], 31), (g5, #[.int .u64 p.id, .string (str p.addr), .int .u64 (l3 p.slot : Nat), .int .u64 (l2 p.slot : Nat), .int .u64 (l1 p.slot : Nat), .int .u64 (l0 p.slot : Nat), .int .i64 p.kind], 26), (w.heap.size, #[.int .u64 a.id, .string (str a.addr), .int .u64 (l3 a.slot : Nat), .int .u64 (l2 a.slot : Nat), .int .u64 (l1 a.slot : Nat), .int .u64 (l0 a.slot : Nat), .int .i64 a.kind], 26)] V) => And.intro (cells7 (hV.get (.tail _ (.head _)))).1 (cells7 (hV.get (.head _))).1)
      refine Drawn.start (fun V => Kb w [(g6, #[.int .u64 p.id, .string (str p.addr), .int .u64 (l3 p.slot : Nat), .int .u64 (l2 p.slot : Nat), .int .u64 (l1 p.slot : Nat), .int .u64 (l0 p.slot : Nat), .int .i64 p.kind], 31), (g5, #[.int .u64 p.id, .string (str p.addr), .int .u64 (l3 p.slot : Nat), .int .u64 (l2 p.slot : Nat), .int .u64 (l1 p.slot : Nat), .int .u64 (l0 p.slot : Nat), .int .i64 p.kind], 26), (w.heap.size, #[.int .u64 a.id, .string (str a.addr), .int .u64 (l3 a.slot : Nat), .int .u64 (l2 a.slot : Nat), .int .u64 (l1 a.slot : Nat), .int .u64 (l0 a.slot : Nat), .int .i64 a.kind], 26)] V) (fun _ => false) (by kernel_rfl) ?_
      refine Drawn.take 0 (some 74) (v := ?_) rfl rfl (by kernel_rfl) (by kernel_rfl) (by kernel_rfl) (by kernel_rfl) (by kernel_rfl) rfl (fun _ _ _ h => h) (Or.inl ⟨rfl, ?_⟩) H0 ?_
      rotate_left
      · intro W hW; have hW := HS.out W hW; go_simp; try with_reducible rfl
      simp only [put_list, List.set]
      refine Drawn.take 1 (some 75) (v := ?_) rfl rfl (by kernel_rfl) (by kernel_rfl) (by kernel_rfl) (by kernel_rfl) (by kernel_rfl) rfl (fun _ _ _ h => h) (Or.inl ⟨rfl, ?_⟩) H0 ?_
      rotate_left
      · intro W hW; have hW := HS.out W hW; go_simp; try with_reducible rfl
      simp only [put_list, List.set]
      refine Drawn.take 2 (some 76) (v := ?_) rfl rfl (by kernel_rfl) (by kernel_rfl) (by kernel_rfl) (by kernel_rfl) (by kernel_rfl) rfl (fun _ _ _ h => h) (Or.inl ⟨rfl, ?_⟩) H0 ?_
      rotate_left
      · intro W hW; have hW := HS.out W hW; go_simp; try with_reducible rfl
      simp only [put_list, List.set]
      refine Drawn.take 3 (some 77) (v := ?_) rfl rfl (by kernel_rfl) (by kernel_rfl) (by kernel_rfl) (by kernel_rfl) (by kernel_rfl) rfl (fun _ _ _ h => h) (Or.inl ⟨rfl, ?_⟩) H0 ?_
      rotate_left
      · intro W hW; have hW := HS.out W hW; go_simp; try with_reducible rfl
      simp only [put_list, List.set]
      refine Drawn.take 4 (some 78) (v := ?_) rfl rfl (by kernel_rfl) (by kernel_rfl) (by kernel_rfl) (by kernel_rfl) (by kernel_rfl) rfl (fun _ _ _ h => h) (Or.inl ⟨rfl, ?_⟩) H0 ?_
      rotate_left
      · intro W hW; have hW := HS.out W hW; go_simp; try with_reducible rfl
      simp only [put_list, List.set]
      refine Drawn.take 5 (some 79) (v := ?_) rfl rfl (by kernel_rfl) (by kernel_rfl) (by kernel_rfl) (by kernel_rfl) (by kernel_rfl) rfl (fun _ _ _ h => h) (Or.inl ⟨rfl, ?_⟩) H0 ?_
      rotate_left
      · intro W hW; have hW := HS.out W hW; go_simp; try with_reducible rfl
      simp only [put_list, List.set]
      refine Drawn.take 6 (some 80) (v := ?_) rfl rfl (by kernel_rfl) (by kernel_rfl) (by kernel_rfl) (by kernel_rfl) (by kernel_rfl) rfl (fun _ _ _ h => h) (Or.inl ⟨rfl, ?_⟩) H0 ?_
      rotate_left
      · intro W hW; have hW := HS.out W hW; go_simp; try with_reducible rfl
      simp only [put_list, List.set]
      refine Drawn.take 7 (some 81) (v := ?_) rfl rfl (by kernel_rfl) (by kernel_rfl) (by kernel_rfl) (by kernel_rfl) (by kernel_rfl) rfl (fun _ _ _ h => h) (Or.inl ⟨rfl, ?_⟩) H0 ?_
      rotate_left
      · intro W hW; have hW := HS.out W hW; go_simp; try with_reducible rfl
      simp only [put_list, List.set]
      refine Drawn.take 8 (some 82) (v := ?_) rfl rfl (by kernel_rfl) (by kernel_rfl) (by kernel_rfl) (by kernel_rfl) (by kernel_rfl) rfl (fun _ _ _ h => h) (Or.inl ⟨rfl, ?_⟩) H0 ?_
      rotate_left
      · intro W hW; have hW := HS.out W hW; go_simp; try with_reducible rfl
      simp only [put_list, List.set]
      refine Drawn.take 9 (some 83) (v := ?_) rfl rfl (by kernel_rfl) (by kernel_rfl) (by kernel_rfl) (by kernel_rfl) (by kernel_rfl) rfl (fun _ _ _ h => h) (Or.inl ⟨rfl, ?_⟩) H0 ?_
      rotate_left
      · intro W hW; have hW := HS.out W hW; go_simp; try with_reducible rfl
      simp only [put_list, List.set]
      refine Drawn.take 10 (some 84) (v := ?_) rfl rfl (by kernel_rfl) (by kernel_rfl) (by kernel_rfl) (by kernel_rfl) (by kernel_rfl) rfl (fun _ _ _ h => h) (Or.inl ⟨rfl, ?_⟩) H0 ?_
      rotate_left
      · intro W hW; have hW := HS.out W hW; go_simp; try with_reducible rfl
      simp only [put_list, List.set]
      refine Drawn.take 11 (some 85) (v := ?_) rfl rfl (by kernel_rfl) (by kernel_rfl) (by kernel_rfl) (by kernel_rfl) (by kernel_rfl) rfl (fun _ _ _ h => h) (Or.inl ⟨rfl, ?_⟩) H0 ?_
      rotate_left
      · intro W hW; have hW := HS.out W hW; go_simp; try with_reducible rfl
      simp only [put_list, List.set]
      refine Drawn.take 12 (some 86) (v := ?_) rfl rfl (by kernel_rfl) (by kernel_rfl) (by kernel_rfl) (by kernel_rfl) (by kernel_rfl) rfl (fun _ _ _ h => h) (Or.inl ⟨rfl, ?_⟩) H0 ?_
      rotate_left
      · intro W hW; have hW := HS.out W hW; go_simp; try with_reducible rfl
      simp only [put_list, List.set]
      refine Drawn.take 14 (some 88) (v := ?_) rfl rfl (by kernel_rfl) (by kernel_rfl) (by kernel_rfl) (by kernel_rfl) (by kernel_rfl) rfl (fun _ _ _ h => h) (Or.inl ⟨rfl, ?_⟩) H0 ?_
      rotate_left
      · intro W hW; have hW := HS.out W hW; go_simp; try with_reducible rfl
      simp only [put_list, List.set]
      refine Drawn.only 13 (by kernel_rfl) rfl rfl (fun K hK => ?_)
      go_simp
      refine (HRF.out _).mono ?_
      rintro e w9 ⟨rfl, hb⟩
      refine hK _ _ (fun _ _ => H0.call hb) ?_
      replace H0 := H0.call hb
      clear hK K hb
      try simp only [put_list, List.set]
      refine Drawn.take 15 (some 89) (v := ?_) rfl rfl (by kernel_rfl) (by kernel_rfl) (by kernel_rfl) (by kernel_rfl) (by kernel_rfl) rfl (fun _ _ _ h => h) (Or.inl ⟨rfl, ?_⟩) H0 ?_
      rotate_left
      · intro W hW; have hW := HS.out W hW; go_simp; try with_reducible rfl
      simp only [put_list, List.set]
      refine Drawn.take 16 (some 90) (v := ?_) rfl rfl (by kernel_rfl) (by kernel_rfl) (by kernel_rfl) (by kernel_rfl) (by kernel_rfl) rfl (fun _ _ _ h => h) (Or.inl ⟨rfl, ?_⟩) H0 ?_
      rotate_left
      · intro W hW; have hW := HS.out W hW; go_simp; try with_reducible rfl
      simp only [put_list, List.set]
      refine Drawn.take 17 (some 91) (v := ?_) rfl rfl (by kernel_rfl) (by kernel_rfl) (by kernel_rfl) (by kernel_rfl) (by kernel_rfl) rfl (fun _ _ _ h => h) (Or.inl ⟨rfl, ?_⟩) H0 ?_
      rotate_left
      · intro W hW; have hW := HS.out W hW; go_simp; try with_reducible rfl
      simp only [put_list, List.set]
      refine Drawn.take 18 (some 92) (v := ?_) rfl rfl (by kernel_rfl) (by kernel_rfl) (by kernel_rfl) (by kernel_rfl) (by kernel_rfl) rfl (fun _ _ _ h => h) (Or.inl ⟨rfl, ?_⟩) H0 ?_
      rotate_left
      · intro W hW; have hW := HS.out W hW; go_simp; try with_reducible rfl
      simp only [put_list, List.set]
      refine Drawn.take 19 (some 93) (v := ?_) rfl rfl (by kernel_rfl) (by kernel_rfl) (by kernel_rfl) (by kernel_rfl) (by kernel_rfl) rfl (fun _ _ _ h => h) (Or.inl ⟨rfl, ?_⟩) H0 ?_
      rotate_left
      · intro W hW; have hW := HS.out W hW; go_simp; try with_reducible rfl
      simp only [put_list, List.set]
      refine Drawn.take 20 (some 94) (v := ?_) rfl rfl (by kernel_rfl) (by kernel_rfl) (by kernel_rfl) (by kernel_rfl) (by kernel_rfl) rfl (fun _ _ _ h => h) (Or.inl ⟨rfl, ?_⟩) H0 ?_
      rotate_left
      · intro W hW; have hW := HS.out W hW; go_simp; try with_reducible rfl
      simp only [put_list, List.set]
      refine Drawn.take 21 (some 95) (v := ?_) rfl rfl (by kernel_rfl) (by kernel_rfl) (by kernel_rfl) (by kernel_rfl) (by kernel_rfl) rfl (fun _ _ _ h => h) (Or.inl ⟨rfl, ?_⟩) H0 ?_
      rotate_left
      · intro W hW; have hW := HS.out W hW; go_simp; try with_reducible rfl
      simp only [put_list, List.set]
      refine Drawn.take 22 (some 10) (v := ?_) rfl rfl (by kernel_rfl) (by kernel_rfl) (by kernel_rfl) (by kernel_rfl) (by kernel_rfl) rfl (fun _ _ _ h => h) (Or.inl ⟨rfl, ?_⟩) H0 ?_
      rotate_left
      · intro W hW; have hW := HS.out W hW; go_simp; try with_reducible rfl
      simp only [put_list, List.set]
      refine Drawn.done (by kernel_rfl) ?_ _
      have HB := Lib.hid H0.below
      clear H0 HS hre HRF K6
      go_wp2_with fail
      go_ret
      exact ⟨rfl, HB.out⟩
    · have hLn := hel.out hok
      obtain ⟨cap, W5, hcv, hb1, hb2, hb3⟩ := bytes_of (str a.enc) w4
      have HNE := Lib.hid (show ∀ p ∈ ([(w.heap.size, #[.int .u64 a.id, .string (str a.addr), .int .u64 (l3 a.slot : Nat), .int .u64 (l2 a.slot : Nat), .int .u64 (l1 a.slot : Nat), .int .u64 (l0 a.slot : Nat), .int .i64 a.kind], 26)] : List (Nat × Array Value × TypeId)), p.1 ≠ w4.heap.size from K4.out.ne)
      have HBS := Lib.hid K4.out.below.size
      replace K4 := Lib.hid (K4.out.call hb2)
      obtain ⟨L, hL⟩ : ∃ L, L = a.enc.length := ⟨_, rfl⟩
      have hLb : 0 < L := by rw [hL]; exact List.length_pos_iff.2 hemp
      have hsz : (str a.enc).size = L := by rw [str_size, hL]
      rw [hsz] at hcv hb1
      have HY := Lib.hid (And.intro hb1 (And.intro HNE.out HBS.out))
      have HL := Lib.hid hL
      rw [← hL] at hLn
      clear hb1 hb2 hb3 hL HNE HBS hemp
      generalize hst : str a.enc = y at *
      have HST := Lib.hid hst
      clear hst
      generalize hg4 : w4.heap.size = g4 at *
      by_cases hneg : at3 < 0
      · obtain ⟨z, hz⟩ : ∃ z : Nat, -(at3 + 1) = (z : Int) := ⟨(-(at3 + 1)).toNat, by omega⟩
        have hzb : z ≤ 9223372036854775807 := by have := HAT.out; omega
        have hz1 : IntKind.i64.wrap (at3 + 1) = at3 + 1 := IntWalk.i64_in _ (by have := HAT.out; omega)
        have hz2 : IntKind.i64.wrap (-(at3 + 1)) = (z : Int) := by rw [hz]; exact IntWalk.i64_in _ (by omega)
        have hz3 : wrap64 (z : Int) = (z : Int) := IntWalk.wrap64_in _ (by omega)
        obtain ⟨j, hj⟩ : ∃ j, j = z % L := ⟨_, rfl⟩
        have hjl : j < L := by rw [hj]; exact Nat.mod_lt _ hLb
        have hrem : (z : Int) % (L : Int) = (j : Int) := by rw [hj]; simp
        have hi0 : (0 : Int) ≤ (j : Int) ∧ (j : Int) < (L : Int) := by omega
        have hL0 : ¬ L = 0 := by omega
        have htm : (z : Int).tmod (L : Int) = (j : Int) := by rw [IntWalk.rem_in _ _ (by omega), hrem]
        have d0 := (HY.out.1 j hjl).1
        have e0 := (HY.out.1 j hjl).2
        have hxor := u8_xor_nat (byteAtK y j) by4 (byteAt_ltK _ _) HBY.out
        have hset : Bt g4 L (upd (byteAtK y) j (byteAtK y j ^^^ by4)) ((W5.setCell ⟨g4, j, none⟩ (.int .u8 (byteAtK y j ^^^ by4 : Nat))).drew) := HY.out.1.set hjl (byteAtK y j ^^^ by4)
        have hcv2 := hset.conv (fun i => by unfold upd; split; (· exact Nat.xor_lt_two_pow (n := 8) (byteAt_ltK _ _) HBY.out); (· exact byteAt_ltK _ _)) cap
        have htt := txt_turn (s := a.enc) (m := j) HBY.out (by rw [← HL.out]; exact hjl)
        rw [HST.out, ← HL.out] at htt
        rw [htt] at hcv2
        have HD1 := Lib.hid (fun V => getAsk_c (turnB a.enc j (UInt8.ofNat by4)) V)
        have HD2 := Lib.hid (fun V => rgetAsk_c (turnB a.enc j (UInt8.ofNat by4)) V)
        have hgb := HY.out.2.2
        replace K4 := Lib.hid ((K4.out.set (i := j) (b := g4) hgb HY.out.2.1 (.int .u8 (byteAtK y j ^^^ by4 : Nat))).call (Below.refl _ _).drew)
        generalize str (turnB a.enc j (UInt8.ofNat by4)) = tt at *
        generalize byteAtK y j ^^^ by4 = x8 at *
        generalize byteAtK y j = x0 at *
        clear hset htt hj hjl HY HL HST HBY HAT hgb hzb hz
        go_wp2_with fail
        go_still_tail 15, (by kernel_rfl)
        go_wp2_with fail
        refine (HD1.out _).mono ?_
        rintro e w5 ⟨o, ho, rfl, hb⟩
        rw [askO_eq]
        obtain ⟨p, hp⟩ : ∃ p, p = o.getD AskP.zero := ⟨_, rfl⟩
        obtain ⟨q, hq⟩ : ∃ q, q = o.isSome := ⟨_, rfl⟩
        rw [← hp, ← hq]
        have K5 := Lib.hid ((K4.out.call hb).box #[.int .u64 p.id, .string (str p.addr), .int .u64 (l3 p.slot : Nat), .int .u64 (l2 p.slot : Nat), .int .u64 (l1 p.slot : Nat), .int .u64 (l0 p.slot : Nat), .int .i64 p.kind] 26)
        have HO := Lib.hid (And.intro ho (And.intro hp hq))
        clear hb K4 ho hp hq HD1
        unfold askV
        go_wp2_with fail
        refine (HD2.out _).mono ?_
        rintro e w6 ⟨o', ho', rfl, hb⟩
        obtain rfl := HO.out.1.one ho'
        rw [askO_eq, ← HO.out.2.1, ← HO.out.2.2]
        have K6 := Lib.hid (((K5.out.call hb).box #[.int .u64 p.id, .string (str p.addr), .int .u64 (l3 p.slot : Nat), .int .u64 (l2 p.slot : Nat), .int .u64 (l1 p.slot : Nat), .int .u64 (l0 p.slot : Nat), .int .i64 p.kind] 31).call (Below.refl _ _).drew)
        clear hb K5 ho' HO HD2
        unfold askV
        go_wp2_with fail
        generalize w5.heap.size = g5 at *
        generalize w6.heap.size = g6 at *
        have H0 := K6.out
        have HRF := Lib.hid (fun V => refAsk_c p V)
        have hre := req_ask p
        unfold askV at HRF hre
        have HS := Lib.hid (fun (V : World) (hV : Kb w [(g6, #[.int .u64 p.id, .string (str p.addr), .int .u64 (l3 p.slot : Nat), .int .u64 (l2 p.slot : Nat), .int .u64 (l1 p.slot : Nat), .int .u64 (l0 p.slot : Nat), .int .i64 p.kind], 31), (g5, #[.int .u64 p.id, .string (str p.addr), .int .u64 (l3 p.slot : Nat), .int .u64 (l2 p.slot : Nat), .int .u64 (l1 p.slot : Nat), .int .u64 (l0 p.slot : Nat), .int .i64 p.kind], 26), (w.heap.size, #[.int .u64 a.id, .string (str a.addr), .int .u64 (l3 a.slot : Nat), .int .u64 (l2 a.slot : Nat), .int .u64 (l1 a.slot : Nat), .int .u64 (l0 a.slot : Nat), .int .i64 a.kind], 26)] V) => And.intro (cells7 (hV.get (.tail _ (.head _)))).1 (cells7 (hV.get (.head _))).1)
        refine Drawn.start (fun V => Kb w [(g6, #[.int .u64 p.id, .string (str p.addr), .int .u64 (l3 p.slot : Nat), .int .u64 (l2 p.slot : Nat), .int .u64 (l1 p.slot : Nat), .int .u64 (l0 p.slot : Nat), .int .i64 p.kind], 31), (g5, #[.int .u64 p.id, .string (str p.addr), .int .u64 (l3 p.slot : Nat), .int .u64 (l2 p.slot : Nat), .int .u64 (l1 p.slot : Nat), .int .u64 (l0 p.slot : Nat), .int .i64 p.kind], 26), (w.heap.size, #[.int .u64 a.id, .string (str a.addr), .int .u64 (l3 a.slot : Nat), .int .u64 (l2 a.slot : Nat), .int .u64 (l1 a.slot : Nat), .int .u64 (l0 a.slot : Nat), .int .i64 a.kind], 26)] V) (fun _ => false) (by kernel_rfl) ?_
        refine Drawn.take 0 (some 74) (v := ?_) rfl rfl (by kernel_rfl) (by kernel_rfl) (by kernel_rfl) (by kernel_rfl) (by kernel_rfl) rfl (fun _ _ _ h => h) (Or.inl ⟨rfl, ?_⟩) H0 ?_
        rotate_left
        · intro W hW; have hW := HS.out W hW; go_simp; try with_reducible rfl
        simp only [put_list, List.set]
        refine Drawn.take 1 (some 75) (v := ?_) rfl rfl (by kernel_rfl) (by kernel_rfl) (by kernel_rfl) (by kernel_rfl) (by kernel_rfl) rfl (fun _ _ _ h => h) (Or.inl ⟨rfl, ?_⟩) H0 ?_
        rotate_left
        · intro W hW; have hW := HS.out W hW; go_simp; try with_reducible rfl
        simp only [put_list, List.set]
        refine Drawn.take 2 (some 76) (v := ?_) rfl rfl (by kernel_rfl) (by kernel_rfl) (by kernel_rfl) (by kernel_rfl) (by kernel_rfl) rfl (fun _ _ _ h => h) (Or.inl ⟨rfl, ?_⟩) H0 ?_
        rotate_left
        · intro W hW; have hW := HS.out W hW; go_simp; try with_reducible rfl
        simp only [put_list, List.set]
        refine Drawn.take 3 (some 77) (v := ?_) rfl rfl (by kernel_rfl) (by kernel_rfl) (by kernel_rfl) (by kernel_rfl) (by kernel_rfl) rfl (fun _ _ _ h => h) (Or.inl ⟨rfl, ?_⟩) H0 ?_
        rotate_left
        · intro W hW; have hW := HS.out W hW; go_simp; try with_reducible rfl
        simp only [put_list, List.set]
        refine Drawn.take 4 (some 78) (v := ?_) rfl rfl (by kernel_rfl) (by kernel_rfl) (by kernel_rfl) (by kernel_rfl) (by kernel_rfl) rfl (fun _ _ _ h => h) (Or.inl ⟨rfl, ?_⟩) H0 ?_
        rotate_left
        · intro W hW; have hW := HS.out W hW; go_simp; try with_reducible rfl
        simp only [put_list, List.set]
        refine Drawn.take 5 (some 79) (v := ?_) rfl rfl (by kernel_rfl) (by kernel_rfl) (by kernel_rfl) (by kernel_rfl) (by kernel_rfl) rfl (fun _ _ _ h => h) (Or.inl ⟨rfl, ?_⟩) H0 ?_
        rotate_left
        · intro W hW; have hW := HS.out W hW; go_simp; try with_reducible rfl
        simp only [put_list, List.set]
        refine Drawn.take 6 (some 80) (v := ?_) rfl rfl (by kernel_rfl) (by kernel_rfl) (by kernel_rfl) (by kernel_rfl) (by kernel_rfl) rfl (fun _ _ _ h => h) (Or.inl ⟨rfl, ?_⟩) H0 ?_
        rotate_left
        · intro W hW; have hW := HS.out W hW; go_simp; try with_reducible rfl
        simp only [put_list, List.set]
        refine Drawn.take 7 (some 81) (v := ?_) rfl rfl (by kernel_rfl) (by kernel_rfl) (by kernel_rfl) (by kernel_rfl) (by kernel_rfl) rfl (fun _ _ _ h => h) (Or.inl ⟨rfl, ?_⟩) H0 ?_
        rotate_left
        · intro W hW; have hW := HS.out W hW; go_simp; try with_reducible rfl
        simp only [put_list, List.set]
        refine Drawn.take 8 (some 82) (v := ?_) rfl rfl (by kernel_rfl) (by kernel_rfl) (by kernel_rfl) (by kernel_rfl) (by kernel_rfl) rfl (fun _ _ _ h => h) (Or.inl ⟨rfl, ?_⟩) H0 ?_
        rotate_left
        · intro W hW; have hW := HS.out W hW; go_simp; try with_reducible rfl
        simp only [put_list, List.set]
        refine Drawn.take 9 (some 83) (v := ?_) rfl rfl (by kernel_rfl) (by kernel_rfl) (by kernel_rfl) (by kernel_rfl) (by kernel_rfl) rfl (fun _ _ _ h => h) (Or.inl ⟨rfl, ?_⟩) H0 ?_
        rotate_left
        · intro W hW; have hW := HS.out W hW; go_simp; try with_reducible rfl
        simp only [put_list, List.set]
        refine Drawn.take 10 (some 84) (v := ?_) rfl rfl (by kernel_rfl) (by kernel_rfl) (by kernel_rfl) (by kernel_rfl) (by kernel_rfl) rfl (fun _ _ _ h => h) (Or.inl ⟨rfl, ?_⟩) H0 ?_
        rotate_left
        · intro W hW; have hW := HS.out W hW; go_simp; try with_reducible rfl
        simp only [put_list, List.set]
        refine Drawn.take 11 (some 85) (v := ?_) rfl rfl (by kernel_rfl) (by kernel_rfl) (by kernel_rfl) (by kernel_rfl) (by kernel_rfl) rfl (fun _ _ _ h => h) (Or.inl ⟨rfl, ?_⟩) H0 ?_
        rotate_left
        · intro W hW; have hW := HS.out W hW; go_simp; try with_reducible rfl
        simp only [put_list, List.set]
        refine Drawn.take 12 (some 86) (v := ?_) rfl rfl (by kernel_rfl) (by kernel_rfl) (by kernel_rfl) (by kernel_rfl) (by kernel_rfl) rfl (fun _ _ _ h => h) (Or.inl ⟨rfl, ?_⟩) H0 ?_
        rotate_left
        · intro W hW; have hW := HS.out W hW; go_simp; try with_reducible rfl
        simp only [put_list, List.set]
        refine Drawn.take 14 (some 88) (v := ?_) rfl rfl (by kernel_rfl) (by kernel_rfl) (by kernel_rfl) (by kernel_rfl) (by kernel_rfl) rfl (fun _ _ _ h => h) (Or.inl ⟨rfl, ?_⟩) H0 ?_
        rotate_left
        · intro W hW; have hW := HS.out W hW; go_simp; try with_reducible rfl
        simp only [put_list, List.set]
        refine Drawn.only 13 (by kernel_rfl) rfl rfl (fun K hK => ?_)
        go_simp
        refine (HRF.out _).mono ?_
        rintro e w9 ⟨rfl, hb⟩
        refine hK _ _ (fun _ _ => H0.call hb) ?_
        replace H0 := H0.call hb
        clear hK K hb
        try simp only [put_list, List.set]
        refine Drawn.take 15 (some 89) (v := ?_) rfl rfl (by kernel_rfl) (by kernel_rfl) (by kernel_rfl) (by kernel_rfl) (by kernel_rfl) rfl (fun _ _ _ h => h) (Or.inl ⟨rfl, ?_⟩) H0 ?_
        rotate_left
        · intro W hW; have hW := HS.out W hW; go_simp; try with_reducible rfl
        simp only [put_list, List.set]
        refine Drawn.take 16 (some 90) (v := ?_) rfl rfl (by kernel_rfl) (by kernel_rfl) (by kernel_rfl) (by kernel_rfl) (by kernel_rfl) rfl (fun _ _ _ h => h) (Or.inl ⟨rfl, ?_⟩) H0 ?_
        rotate_left
        · intro W hW; have hW := HS.out W hW; go_simp; try with_reducible rfl
        simp only [put_list, List.set]
        refine Drawn.take 17 (some 91) (v := ?_) rfl rfl (by kernel_rfl) (by kernel_rfl) (by kernel_rfl) (by kernel_rfl) (by kernel_rfl) rfl (fun _ _ _ h => h) (Or.inl ⟨rfl, ?_⟩) H0 ?_
        rotate_left
        · intro W hW; have hW := HS.out W hW; go_simp; try with_reducible rfl
        simp only [put_list, List.set]
        refine Drawn.take 18 (some 92) (v := ?_) rfl rfl (by kernel_rfl) (by kernel_rfl) (by kernel_rfl) (by kernel_rfl) (by kernel_rfl) rfl (fun _ _ _ h => h) (Or.inl ⟨rfl, ?_⟩) H0 ?_
        rotate_left
        · intro W hW; have hW := HS.out W hW; go_simp; try with_reducible rfl
        simp only [put_list, List.set]
        refine Drawn.take 19 (some 93) (v := ?_) rfl rfl (by kernel_rfl) (by kernel_rfl) (by kernel_rfl) (by kernel_rfl) (by kernel_rfl) rfl (fun _ _ _ h => h) (Or.inl ⟨rfl, ?_⟩) H0 ?_
        rotate_left
        · intro W hW; have hW := HS.out W hW; go_simp; try with_reducible rfl
        simp only [put_list, List.set]
        refine Drawn.take 20 (some 94) (v := ?_) rfl rfl (by kernel_rfl) (by kernel_rfl) (by kernel_rfl) (by kernel_rfl) (by kernel_rfl) rfl (fun _ _ _ h => h) (Or.inl ⟨rfl, ?_⟩) H0 ?_
        rotate_left
        · intro W hW; have hW := HS.out W hW; go_simp; try with_reducible rfl
        simp only [put_list, List.set]
        refine Drawn.take 21 (some 95) (v := ?_) rfl rfl (by kernel_rfl) (by kernel_rfl) (by kernel_rfl) (by kernel_rfl) (by kernel_rfl) rfl (fun _ _ _ h => h) (Or.inl ⟨rfl, ?_⟩) H0 ?_
        rotate_left
        · intro W hW; have hW := HS.out W hW; go_simp; try with_reducible rfl
        simp only [put_list, List.set]
        refine Drawn.take 22 (some 10) (v := ?_) rfl rfl (by kernel_rfl) (by kernel_rfl) (by kernel_rfl) (by kernel_rfl) (by kernel_rfl) rfl (fun _ _ _ h => h) (Or.inl ⟨rfl, ?_⟩) H0 ?_
        rotate_left
        · intro W hW; have hW := HS.out W hW; go_simp; try with_reducible rfl
        simp only [put_list, List.set]
        refine Drawn.done (by kernel_rfl) ?_ _
        have HB := Lib.hid H0.below
        clear H0 HS hre HRF K6
        go_wp2_with fail
        go_ret
        exact ⟨rfl, HB.out⟩
      · obtain ⟨z, rfl⟩ : ∃ z : Nat, at3 = (z : Int) := ⟨at3.toNat, by omega⟩
        have hzb : z ≤ 9223372036854775807 := by have := HAT.out; omega
        have hz3 : wrap64 (z : Int) = (z : Int) := IntWalk.wrap64_in _ (by omega)
        obtain ⟨j, hj⟩ : ∃ j, j = z % L := ⟨_, rfl⟩
        have hjl : j < L := by rw [hj]; exact Nat.mod_lt _ hLb
        have hrem : (z : Int) % (L : Int) = (j : Int) := by rw [hj]; simp
        have hi0 : (0 : Int) ≤ (j : Int) ∧ (j : Int) < (L : Int) := by omega
        have hL0 : ¬ L = 0 := by omega
        have htm : (z : Int).tmod (L : Int) = (j : Int) := by rw [IntWalk.rem_in _ _ (by omega), hrem]
        have d0 := (HY.out.1 j hjl).1
        have e0 := (HY.out.1 j hjl).2
        have hxor := u8_xor_nat (byteAtK y j) by4 (byteAt_ltK _ _) HBY.out
        have hset : Bt g4 L (upd (byteAtK y) j (byteAtK y j ^^^ by4)) ((W5.setCell ⟨g4, j, none⟩ (.int .u8 (byteAtK y j ^^^ by4 : Nat))).drew) := HY.out.1.set hjl (byteAtK y j ^^^ by4)
        have hcv2 := hset.conv (fun i => by unfold upd; split; (· exact Nat.xor_lt_two_pow (n := 8) (byteAt_ltK _ _) HBY.out); (· exact byteAt_ltK _ _)) cap
        have htt := txt_turn (s := a.enc) (m := j) HBY.out (by rw [← HL.out]; exact hjl)
        rw [HST.out, ← HL.out] at htt
        rw [htt] at hcv2
        have HD1 := Lib.hid (fun V => getAsk_c (turnB a.enc j (UInt8.ofNat by4)) V)
        have HD2 := Lib.hid (fun V => rgetAsk_c (turnB a.enc j (UInt8.ofNat by4)) V)
        have hgb := HY.out.2.2
        replace K4 := Lib.hid ((K4.out.set (i := j) (b := g4) hgb HY.out.2.1 (.int .u8 (byteAtK y j ^^^ by4 : Nat))).call (Below.refl _ _).drew)
        generalize str (turnB a.enc j (UInt8.ofNat by4)) = tt at *
        generalize byteAtK y j ^^^ by4 = x8 at *
        generalize byteAtK y j = x0 at *
        clear hset htt hj hjl HY HL HST HBY HAT hgb hzb 
        go_wp2_with fail
        go_still_tail 15, (by kernel_rfl)
        go_wp2_with fail
        refine (HD1.out _).mono ?_
        rintro e w5 ⟨o, ho, rfl, hb⟩
        rw [askO_eq]
        obtain ⟨p, hp⟩ : ∃ p, p = o.getD AskP.zero := ⟨_, rfl⟩
        obtain ⟨q, hq⟩ : ∃ q, q = o.isSome := ⟨_, rfl⟩
        rw [← hp, ← hq]
        have K5 := Lib.hid ((K4.out.call hb).box #[.int .u64 p.id, .string (str p.addr), .int .u64 (l3 p.slot : Nat), .int .u64 (l2 p.slot : Nat), .int .u64 (l1 p.slot : Nat), .int .u64 (l0 p.slot : Nat), .int .i64 p.kind] 26)
        have HO := Lib.hid (And.intro ho (And.intro hp hq))
        clear hb K4 ho hp hq HD1
        unfold askV
        go_wp2_with fail
        refine (HD2.out _).mono ?_
        rintro e w6 ⟨o', ho', rfl, hb⟩
        obtain rfl := HO.out.1.one ho'
        rw [askO_eq, ← HO.out.2.1, ← HO.out.2.2]
        have K6 := Lib.hid (((K5.out.call hb).box #[.int .u64 p.id, .string (str p.addr), .int .u64 (l3 p.slot : Nat), .int .u64 (l2 p.slot : Nat), .int .u64 (l1 p.slot : Nat), .int .u64 (l0 p.slot : Nat), .int .i64 p.kind] 31).call (Below.refl _ _).drew)
        clear hb K5 ho' HO HD2
        unfold askV
        go_wp2_with fail
        generalize w5.heap.size = g5 at *
        generalize w6.heap.size = g6 at *
        have H0 := K6.out
        have HRF := Lib.hid (fun V => refAsk_c p V)
        have hre := req_ask p
        unfold askV at HRF hre
        have HS := Lib.hid (fun (V : World) (hV : Kb w [(g6, #[.int .u64 p.id, .string (str p.addr), .int .u64 (l3 p.slot : Nat), .int .u64 (l2 p.slot : Nat), .int .u64 (l1 p.slot : Nat), .int .u64 (l0 p.slot : Nat), .int .i64 p.kind], 31), (g5, #[.int .u64 p.id, .string (str p.addr), .int .u64 (l3 p.slot : Nat), .int .u64 (l2 p.slot : Nat), .int .u64 (l1 p.slot : Nat), .int .u64 (l0 p.slot : Nat), .int .i64 p.kind], 26), (w.heap.size, #[.int .u64 a.id, .string (str a.addr), .int .u64 (l3 a.slot : Nat), .int .u64 (l2 a.slot : Nat), .int .u64 (l1 a.slot : Nat), .int .u64 (l0 a.slot : Nat), .int .i64 a.kind], 26)] V) => And.intro (cells7 (hV.get (.tail _ (.head _)))).1 (cells7 (hV.get (.head _))).1)
        refine Drawn.start (fun V => Kb w [(g6, #[.int .u64 p.id, .string (str p.addr), .int .u64 (l3 p.slot : Nat), .int .u64 (l2 p.slot : Nat), .int .u64 (l1 p.slot : Nat), .int .u64 (l0 p.slot : Nat), .int .i64 p.kind], 31), (g5, #[.int .u64 p.id, .string (str p.addr), .int .u64 (l3 p.slot : Nat), .int .u64 (l2 p.slot : Nat), .int .u64 (l1 p.slot : Nat), .int .u64 (l0 p.slot : Nat), .int .i64 p.kind], 26), (w.heap.size, #[.int .u64 a.id, .string (str a.addr), .int .u64 (l3 a.slot : Nat), .int .u64 (l2 a.slot : Nat), .int .u64 (l1 a.slot : Nat), .int .u64 (l0 a.slot : Nat), .int .i64 a.kind], 26)] V) (fun _ => false) (by kernel_rfl) ?_
        refine Drawn.take 0 (some 74) (v := ?_) rfl rfl (by kernel_rfl) (by kernel_rfl) (by kernel_rfl) (by kernel_rfl) (by kernel_rfl) rfl (fun _ _ _ h => h) (Or.inl ⟨rfl, ?_⟩) H0 ?_
        rotate_left
        · intro W hW; have hW := HS.out W hW; go_simp; try with_reducible rfl
        simp only [put_list, List.set]
        refine Drawn.take 1 (some 75) (v := ?_) rfl rfl (by kernel_rfl) (by kernel_rfl) (by kernel_rfl) (by kernel_rfl) (by kernel_rfl) rfl (fun _ _ _ h => h) (Or.inl ⟨rfl, ?_⟩) H0 ?_
        rotate_left
        · intro W hW; have hW := HS.out W hW; go_simp; try with_reducible rfl
        simp only [put_list, List.set]
        refine Drawn.take 2 (some 76) (v := ?_) rfl rfl (by kernel_rfl) (by kernel_rfl) (by kernel_rfl) (by kernel_rfl) (by kernel_rfl) rfl (fun _ _ _ h => h) (Or.inl ⟨rfl, ?_⟩) H0 ?_
        rotate_left
        · intro W hW; have hW := HS.out W hW; go_simp; try with_reducible rfl
        simp only [put_list, List.set]
        refine Drawn.take 3 (some 77) (v := ?_) rfl rfl (by kernel_rfl) (by kernel_rfl) (by kernel_rfl) (by kernel_rfl) (by kernel_rfl) rfl (fun _ _ _ h => h) (Or.inl ⟨rfl, ?_⟩) H0 ?_
        rotate_left
        · intro W hW; have hW := HS.out W hW; go_simp; try with_reducible rfl
        simp only [put_list, List.set]
        refine Drawn.take 4 (some 78) (v := ?_) rfl rfl (by kernel_rfl) (by kernel_rfl) (by kernel_rfl) (by kernel_rfl) (by kernel_rfl) rfl (fun _ _ _ h => h) (Or.inl ⟨rfl, ?_⟩) H0 ?_
        rotate_left
        · intro W hW; have hW := HS.out W hW; go_simp; try with_reducible rfl
        simp only [put_list, List.set]
        refine Drawn.take 5 (some 79) (v := ?_) rfl rfl (by kernel_rfl) (by kernel_rfl) (by kernel_rfl) (by kernel_rfl) (by kernel_rfl) rfl (fun _ _ _ h => h) (Or.inl ⟨rfl, ?_⟩) H0 ?_
        rotate_left
        · intro W hW; have hW := HS.out W hW; go_simp; try with_reducible rfl
        simp only [put_list, List.set]
        refine Drawn.take 6 (some 80) (v := ?_) rfl rfl (by kernel_rfl) (by kernel_rfl) (by kernel_rfl) (by kernel_rfl) (by kernel_rfl) rfl (fun _ _ _ h => h) (Or.inl ⟨rfl, ?_⟩) H0 ?_
        rotate_left
        · intro W hW; have hW := HS.out W hW; go_simp; try with_reducible rfl
        simp only [put_list, List.set]
        refine Drawn.take 7 (some 81) (v := ?_) rfl rfl (by kernel_rfl) (by kernel_rfl) (by kernel_rfl) (by kernel_rfl) (by kernel_rfl) rfl (fun _ _ _ h => h) (Or.inl ⟨rfl, ?_⟩) H0 ?_
        rotate_left
        · intro W hW; have hW := HS.out W hW; go_simp; try with_reducible rfl
        simp only [put_list, List.set]
        refine Drawn.take 8 (some 82) (v := ?_) rfl rfl (by kernel_rfl) (by kernel_rfl) (by kernel_rfl) (by kernel_rfl) (by kernel_rfl) rfl (fun _ _ _ h => h) (Or.inl ⟨rfl, ?_⟩) H0 ?_
        rotate_left
        · intro W hW; have hW := HS.out W hW; go_simp; try with_reducible rfl
        simp only [put_list, List.set]
        refine Drawn.take 9 (some 83) (v := ?_) rfl rfl (by kernel_rfl) (by kernel_rfl) (by kernel_rfl) (by kernel_rfl) (by kernel_rfl) rfl (fun _ _ _ h => h) (Or.inl ⟨rfl, ?_⟩) H0 ?_
        rotate_left
        · intro W hW; have hW := HS.out W hW; go_simp; try with_reducible rfl
        simp only [put_list, List.set]
        refine Drawn.take 10 (some 84) (v := ?_) rfl rfl (by kernel_rfl) (by kernel_rfl) (by kernel_rfl) (by kernel_rfl) (by kernel_rfl) rfl (fun _ _ _ h => h) (Or.inl ⟨rfl, ?_⟩) H0 ?_
        rotate_left
        · intro W hW; have hW := HS.out W hW; go_simp; try with_reducible rfl
        simp only [put_list, List.set]
        refine Drawn.take 11 (some 85) (v := ?_) rfl rfl (by kernel_rfl) (by kernel_rfl) (by kernel_rfl) (by kernel_rfl) (by kernel_rfl) rfl (fun _ _ _ h => h) (Or.inl ⟨rfl, ?_⟩) H0 ?_
        rotate_left
        · intro W hW; have hW := HS.out W hW; go_simp; try with_reducible rfl
        simp only [put_list, List.set]
        refine Drawn.take 12 (some 86) (v := ?_) rfl rfl (by kernel_rfl) (by kernel_rfl) (by kernel_rfl) (by kernel_rfl) (by kernel_rfl) rfl (fun _ _ _ h => h) (Or.inl ⟨rfl, ?_⟩) H0 ?_
        rotate_left
        · intro W hW; have hW := HS.out W hW; go_simp; try with_reducible rfl
        simp only [put_list, List.set]
        refine Drawn.take 14 (some 88) (v := ?_) rfl rfl (by kernel_rfl) (by kernel_rfl) (by kernel_rfl) (by kernel_rfl) (by kernel_rfl) rfl (fun _ _ _ h => h) (Or.inl ⟨rfl, ?_⟩) H0 ?_
        rotate_left
        · intro W hW; have hW := HS.out W hW; go_simp; try with_reducible rfl
        simp only [put_list, List.set]
        refine Drawn.only 13 (by kernel_rfl) rfl rfl (fun K hK => ?_)
        go_simp
        refine (HRF.out _).mono ?_
        rintro e w9 ⟨rfl, hb⟩
        refine hK _ _ (fun _ _ => H0.call hb) ?_
        replace H0 := H0.call hb
        clear hK K hb
        try simp only [put_list, List.set]
        refine Drawn.take 15 (some 89) (v := ?_) rfl rfl (by kernel_rfl) (by kernel_rfl) (by kernel_rfl) (by kernel_rfl) (by kernel_rfl) rfl (fun _ _ _ h => h) (Or.inl ⟨rfl, ?_⟩) H0 ?_
        rotate_left
        · intro W hW; have hW := HS.out W hW; go_simp; try with_reducible rfl
        simp only [put_list, List.set]
        refine Drawn.take 16 (some 90) (v := ?_) rfl rfl (by kernel_rfl) (by kernel_rfl) (by kernel_rfl) (by kernel_rfl) (by kernel_rfl) rfl (fun _ _ _ h => h) (Or.inl ⟨rfl, ?_⟩) H0 ?_
        rotate_left
        · intro W hW; have hW := HS.out W hW; go_simp; try with_reducible rfl
        simp only [put_list, List.set]
        refine Drawn.take 17 (some 91) (v := ?_) rfl rfl (by kernel_rfl) (by kernel_rfl) (by kernel_rfl) (by kernel_rfl) (by kernel_rfl) rfl (fun _ _ _ h => h) (Or.inl ⟨rfl, ?_⟩) H0 ?_
        rotate_left
        · intro W hW; have hW := HS.out W hW; go_simp; try with_reducible rfl
        simp only [put_list, List.set]
        refine Drawn.take 18 (some 92) (v := ?_) rfl rfl (by kernel_rfl) (by kernel_rfl) (by kernel_rfl) (by kernel_rfl) (by kernel_rfl) rfl (fun _ _ _ h => h) (Or.inl ⟨rfl, ?_⟩) H0 ?_
        rotate_left
        · intro W hW; have hW := HS.out W hW; go_simp; try with_reducible rfl
        simp only [put_list, List.set]
        refine Drawn.take 19 (some 93) (v := ?_) rfl rfl (by kernel_rfl) (by kernel_rfl) (by kernel_rfl) (by kernel_rfl) (by kernel_rfl) rfl (fun _ _ _ h => h) (Or.inl ⟨rfl, ?_⟩) H0 ?_
        rotate_left
        · intro W hW; have hW := HS.out W hW; go_simp; try with_reducible rfl
        simp only [put_list, List.set]
        refine Drawn.take 20 (some 94) (v := ?_) rfl rfl (by kernel_rfl) (by kernel_rfl) (by kernel_rfl) (by kernel_rfl) (by kernel_rfl) rfl (fun _ _ _ h => h) (Or.inl ⟨rfl, ?_⟩) H0 ?_
        rotate_left
        · intro W hW; have hW := HS.out W hW; go_simp; try with_reducible rfl
        simp only [put_list, List.set]
        refine Drawn.take 21 (some 95) (v := ?_) rfl rfl (by kernel_rfl) (by kernel_rfl) (by kernel_rfl) (by kernel_rfl) (by kernel_rfl) rfl (fun _ _ _ h => h) (Or.inl ⟨rfl, ?_⟩) H0 ?_
        rotate_left
        · intro W hW; have hW := HS.out W hW; go_simp; try with_reducible rfl
        simp only [put_list, List.set]
        refine Drawn.take 22 (some 10) (v := ?_) rfl rfl (by kernel_rfl) (by kernel_rfl) (by kernel_rfl) (by kernel_rfl) (by kernel_rfl) rfl (fun _ _ _ h => h) (Or.inl ⟨rfl, ?_⟩) H0 ?_
        rotate_left
        · intro W hW; have hW := HS.out W hW; go_simp; try with_reducible rfl
        simp only [put_list, List.set]
        refine Drawn.done (by kernel_rfl) ?_ _
        have HB := Lib.hid H0.below
        clear H0 HS hre HRF K6
        go_wp2_with fail
        go_ret
        exact ⟨rfl, HB.out⟩
  · rw [putAskV_no hok] at C2 ⊢
    go_wp2_with fail
    refine (C3.out _).mono ?_
    rintro e w3 ⟨rfl, hb⟩
    have K3 := Lib.hid (K2.out.call hb)
    clear hb K2 c0 c1 c2 c3 c4 c5 c6 C3
    go_wp2_with fail
    refine (C2.out _).mono ?_
    rintro e w4 ⟨rfl, hb⟩
    have K4 := Lib.hid (K3.out.call hb)
    clear hb K3 C2
    cases own
    · have HD1 := Lib.hid (fun V => getAsk_c s V)
      have HD2 := Lib.hid (fun V => rgetAsk_c s V)
      go_wp2_with fail
      refine (HD1.out _).mono ?_
      rintro e w5 ⟨o, ho, rfl, hb⟩
      rw [askO_eq]
      obtain ⟨p, hp⟩ : ∃ p, p = o.getD AskP.zero := ⟨_, rfl⟩
      obtain ⟨q, hq⟩ : ∃ q, q = o.isSome := ⟨_, rfl⟩
      rw [← hp, ← hq]
      have K5 := Lib.hid ((K4.out.call hb).box #[.int .u64 p.id, .string (str p.addr), .int .u64 (l3 p.slot : Nat), .int .u64 (l2 p.slot : Nat), .int .u64 (l1 p.slot : Nat), .int .u64 (l0 p.slot : Nat), .int .i64 p.kind] 26)
      have HO := Lib.hid (And.intro ho (And.intro hp hq))
      clear hb K4 ho hp hq HD1
      unfold askV
      go_wp2_with fail
      refine (HD2.out _).mono ?_
      rintro e w6 ⟨o', ho', rfl, hb⟩
      obtain rfl := HO.out.1.one ho'
      rw [askO_eq, ← HO.out.2.1, ← HO.out.2.2]
      have K6 := Lib.hid (((K5.out.call hb).box #[.int .u64 p.id, .string (str p.addr), .int .u64 (l3 p.slot : Nat), .int .u64 (l2 p.slot : Nat), .int .u64 (l1 p.slot : Nat), .int .u64 (l0 p.slot : Nat), .int .i64 p.kind] 31).call (Below.refl _ _).drew)
      clear hb K5 ho' HO HD2
      unfold askV
      go_wp2_with fail
      generalize w5.heap.size = g5 at *
      generalize w6.heap.size = g6 at *
      have H0 := K6.out
      have HRF := Lib.hid (fun V => refAsk_c p V)
      have hre := req_ask p
      unfold askV at HRF hre
      have HS := Lib.hid (fun (V : World) (hV : Kb w [(g6, #[.int .u64 p.id, .string (str p.addr), .int .u64 (l3 p.slot : Nat), .int .u64 (l2 p.slot : Nat), .int .u64 (l1 p.slot : Nat), .int .u64 (l0 p.slot : Nat), .int .i64 p.kind], 31), (g5, #[.int .u64 p.id, .string (str p.addr), .int .u64 (l3 p.slot : Nat), .int .u64 (l2 p.slot : Nat), .int .u64 (l1 p.slot : Nat), .int .u64 (l0 p.slot : Nat), .int .i64 p.kind], 26), (w.heap.size, #[.int .u64 a.id, .string (str a.addr), .int .u64 (l3 a.slot : Nat), .int .u64 (l2 a.slot : Nat), .int .u64 (l1 a.slot : Nat), .int .u64 (l0 a.slot : Nat), .int .i64 a.kind], 26)] V) => And.intro (cells7 (hV.get (.tail _ (.head _)))).1 (cells7 (hV.get (.head _))).1)
      refine Drawn.start (fun V => Kb w [(g6, #[.int .u64 p.id, .string (str p.addr), .int .u64 (l3 p.slot : Nat), .int .u64 (l2 p.slot : Nat), .int .u64 (l1 p.slot : Nat), .int .u64 (l0 p.slot : Nat), .int .i64 p.kind], 31), (g5, #[.int .u64 p.id, .string (str p.addr), .int .u64 (l3 p.slot : Nat), .int .u64 (l2 p.slot : Nat), .int .u64 (l1 p.slot : Nat), .int .u64 (l0 p.slot : Nat), .int .i64 p.kind], 26), (w.heap.size, #[.int .u64 a.id, .string (str a.addr), .int .u64 (l3 a.slot : Nat), .int .u64 (l2 a.slot : Nat), .int .u64 (l1 a.slot : Nat), .int .u64 (l0 a.slot : Nat), .int .i64 a.kind], 26)] V) (fun _ => false) (by kernel_rfl) ?_
      refine Drawn.take 0 (some 74) (v := ?_) rfl rfl (by kernel_rfl) (by kernel_rfl) (by kernel_rfl) (by kernel_rfl) (by kernel_rfl) rfl (fun _ _ _ h => h) (Or.inl ⟨rfl, ?_⟩) H0 ?_
      rotate_left
      · intro W hW; have hW := HS.out W hW; go_simp; try with_reducible rfl
      simp only [put_list, List.set]
      refine Drawn.take 1 (some 75) (v := ?_) rfl rfl (by kernel_rfl) (by kernel_rfl) (by kernel_rfl) (by kernel_rfl) (by kernel_rfl) rfl (fun _ _ _ h => h) (Or.inl ⟨rfl, ?_⟩) H0 ?_
      rotate_left
      · intro W hW; have hW := HS.out W hW; go_simp; try with_reducible rfl
      simp only [put_list, List.set]
      refine Drawn.take 2 (some 76) (v := ?_) rfl rfl (by kernel_rfl) (by kernel_rfl) (by kernel_rfl) (by kernel_rfl) (by kernel_rfl) rfl (fun _ _ _ h => h) (Or.inl ⟨rfl, ?_⟩) H0 ?_
      rotate_left
      · intro W hW; have hW := HS.out W hW; go_simp; try with_reducible rfl
      simp only [put_list, List.set]
      refine Drawn.take 3 (some 77) (v := ?_) rfl rfl (by kernel_rfl) (by kernel_rfl) (by kernel_rfl) (by kernel_rfl) (by kernel_rfl) rfl (fun _ _ _ h => h) (Or.inl ⟨rfl, ?_⟩) H0 ?_
      rotate_left
      · intro W hW; have hW := HS.out W hW; go_simp; try with_reducible rfl
      simp only [put_list, List.set]
      refine Drawn.take 4 (some 78) (v := ?_) rfl rfl (by kernel_rfl) (by kernel_rfl) (by kernel_rfl) (by kernel_rfl) (by kernel_rfl) rfl (fun _ _ _ h => h) (Or.inl ⟨rfl, ?_⟩) H0 ?_
      rotate_left
      · intro W hW; have hW := HS.out W hW; go_simp; try with_reducible rfl
      simp only [put_list, List.set]
      refine Drawn.take 5 (some 79) (v := ?_) rfl rfl (by kernel_rfl) (by kernel_rfl) (by kernel_rfl) (by kernel_rfl) (by kernel_rfl) rfl (fun _ _ _ h => h) (Or.inl ⟨rfl, ?_⟩) H0 ?_
      rotate_left
      · intro W hW; have hW := HS.out W hW; go_simp; try with_reducible rfl
      simp only [put_list, List.set]
      refine Drawn.take 6 (some 80) (v := ?_) rfl rfl (by kernel_rfl) (by kernel_rfl) (by kernel_rfl) (by kernel_rfl) (by kernel_rfl) rfl (fun _ _ _ h => h) (Or.inl ⟨rfl, ?_⟩) H0 ?_
      rotate_left
      · intro W hW; have hW := HS.out W hW; go_simp; try with_reducible rfl
      simp only [put_list, List.set]
      refine Drawn.take 7 (some 81) (v := ?_) rfl rfl (by kernel_rfl) (by kernel_rfl) (by kernel_rfl) (by kernel_rfl) (by kernel_rfl) rfl (fun _ _ _ h => h) (Or.inl ⟨rfl, ?_⟩) H0 ?_
      rotate_left
      · intro W hW; have hW := HS.out W hW; go_simp; try with_reducible rfl
      simp only [put_list, List.set]
      refine Drawn.take 8 (some 82) (v := ?_) rfl rfl (by kernel_rfl) (by kernel_rfl) (by kernel_rfl) (by kernel_rfl) (by kernel_rfl) rfl (fun _ _ _ h => h) (Or.inl ⟨rfl, ?_⟩) H0 ?_
      rotate_left
      · intro W hW; have hW := HS.out W hW; go_simp; try with_reducible rfl
      simp only [put_list, List.set]
      refine Drawn.take 9 (some 83) (v := ?_) rfl rfl (by kernel_rfl) (by kernel_rfl) (by kernel_rfl) (by kernel_rfl) (by kernel_rfl) rfl (fun _ _ _ h => h) (Or.inl ⟨rfl, ?_⟩) H0 ?_
      rotate_left
      · intro W hW; have hW := HS.out W hW; go_simp; try with_reducible rfl
      simp only [put_list, List.set]
      refine Drawn.take 10 (some 84) (v := ?_) rfl rfl (by kernel_rfl) (by kernel_rfl) (by kernel_rfl) (by kernel_rfl) (by kernel_rfl) rfl (fun _ _ _ h => h) (Or.inl ⟨rfl, ?_⟩) H0 ?_
      rotate_left
      · intro W hW; have hW := HS.out W hW; go_simp; try with_reducible rfl
      simp only [put_list, List.set]
      refine Drawn.take 11 (some 85) (v := ?_) rfl rfl (by kernel_rfl) (by kernel_rfl) (by kernel_rfl) (by kernel_rfl) (by kernel_rfl) rfl (fun _ _ _ h => h) (Or.inl ⟨rfl, ?_⟩) H0 ?_
      rotate_left
      · intro W hW; have hW := HS.out W hW; go_simp; try with_reducible rfl
      simp only [put_list, List.set]
      refine Drawn.take 12 (some 86) (v := ?_) rfl rfl (by kernel_rfl) (by kernel_rfl) (by kernel_rfl) (by kernel_rfl) (by kernel_rfl) rfl (fun _ _ _ h => h) (Or.inl ⟨rfl, ?_⟩) H0 ?_
      rotate_left
      · intro W hW; have hW := HS.out W hW; go_simp; try with_reducible rfl
      simp only [put_list, List.set]
      refine Drawn.take 14 (some 88) (v := ?_) rfl rfl (by kernel_rfl) (by kernel_rfl) (by kernel_rfl) (by kernel_rfl) (by kernel_rfl) rfl (fun _ _ _ h => h) (Or.inl ⟨rfl, ?_⟩) H0 ?_
      rotate_left
      · intro W hW; have hW := HS.out W hW; go_simp; try with_reducible rfl
      simp only [put_list, List.set]
      refine Drawn.only 13 (by kernel_rfl) rfl rfl (fun K hK => ?_)
      go_simp
      refine (HRF.out _).mono ?_
      rintro e w9 ⟨rfl, hb⟩
      refine hK _ _ (fun _ _ => H0.call hb) ?_
      replace H0 := H0.call hb
      clear hK K hb
      try simp only [put_list, List.set]
      refine Drawn.take 15 (some 89) (v := ?_) rfl rfl (by kernel_rfl) (by kernel_rfl) (by kernel_rfl) (by kernel_rfl) (by kernel_rfl) rfl (fun _ _ _ h => h) (Or.inl ⟨rfl, ?_⟩) H0 ?_
      rotate_left
      · intro W hW; have hW := HS.out W hW; go_simp; try with_reducible rfl
      simp only [put_list, List.set]
      refine Drawn.take 16 (some 90) (v := ?_) rfl rfl (by kernel_rfl) (by kernel_rfl) (by kernel_rfl) (by kernel_rfl) (by kernel_rfl) rfl (fun _ _ _ h => h) (Or.inl ⟨rfl, ?_⟩) H0 ?_
      rotate_left
      · intro W hW; have hW := HS.out W hW; go_simp; try with_reducible rfl
      simp only [put_list, List.set]
      refine Drawn.take 17 (some 91) (v := ?_) rfl rfl (by kernel_rfl) (by kernel_rfl) (by kernel_rfl) (by kernel_rfl) (by kernel_rfl) rfl (fun _ _ _ h => h) (Or.inl ⟨rfl, ?_⟩) H0 ?_
      rotate_left
      · intro W hW; have hW := HS.out W hW; go_simp; try with_reducible rfl
      simp only [put_list, List.set]
      refine Drawn.take 18 (some 92) (v := ?_) rfl rfl (by kernel_rfl) (by kernel_rfl) (by kernel_rfl) (by kernel_rfl) (by kernel_rfl) rfl (fun _ _ _ h => h) (Or.inl ⟨rfl, ?_⟩) H0 ?_
      rotate_left
      · intro W hW; have hW := HS.out W hW; go_simp; try with_reducible rfl
      simp only [put_list, List.set]
      refine Drawn.take 19 (some 93) (v := ?_) rfl rfl (by kernel_rfl) (by kernel_rfl) (by kernel_rfl) (by kernel_rfl) (by kernel_rfl) rfl (fun _ _ _ h => h) (Or.inl ⟨rfl, ?_⟩) H0 ?_
      rotate_left
      · intro W hW; have hW := HS.out W hW; go_simp; try with_reducible rfl
      simp only [put_list, List.set]
      refine Drawn.take 20 (some 94) (v := ?_) rfl rfl (by kernel_rfl) (by kernel_rfl) (by kernel_rfl) (by kernel_rfl) (by kernel_rfl) rfl (fun _ _ _ h => h) (Or.inl ⟨rfl, ?_⟩) H0 ?_
      rotate_left
      · intro W hW; have hW := HS.out W hW; go_simp; try with_reducible rfl
      simp only [put_list, List.set]
      refine Drawn.take 21 (some 95) (v := ?_) rfl rfl (by kernel_rfl) (by kernel_rfl) (by kernel_rfl) (by kernel_rfl) (by kernel_rfl) rfl (fun _ _ _ h => h) (Or.inl ⟨rfl, ?_⟩) H0 ?_
      rotate_left
      · intro W hW; have hW := HS.out W hW; go_simp; try with_reducible rfl
      simp only [put_list, List.set]
      refine Drawn.take 22 (some 10) (v := ?_) rfl rfl (by kernel_rfl) (by kernel_rfl) (by kernel_rfl) (by kernel_rfl) (by kernel_rfl) rfl (fun _ _ _ h => h) (Or.inl ⟨rfl, ?_⟩) H0 ?_
      rotate_left
      · intro W hW; have hW := HS.out W hW; go_simp; try with_reducible rfl
      simp only [put_list, List.set]
      refine Drawn.done (by kernel_rfl) ?_ _
      have HB := Lib.hid H0.below
      clear H0 HS hre HRF K6
      go_wp2_with fail
      go_ret
      exact ⟨rfl, HB.out⟩
    · have HD1 := Lib.hid (fun V => getAsk_c s V)
      have HD2 := Lib.hid (fun V => rgetAsk_c s V)
      go_wp2_with fail
      refine (HD1.out _).mono ?_
      rintro e w5 ⟨o, ho, rfl, hb⟩
      rw [askO_eq]
      obtain ⟨p, hp⟩ : ∃ p, p = o.getD AskP.zero := ⟨_, rfl⟩
      obtain ⟨q, hq⟩ : ∃ q, q = o.isSome := ⟨_, rfl⟩
      rw [← hp, ← hq]
      have K5 := Lib.hid ((K4.out.call hb).box #[.int .u64 p.id, .string (str p.addr), .int .u64 (l3 p.slot : Nat), .int .u64 (l2 p.slot : Nat), .int .u64 (l1 p.slot : Nat), .int .u64 (l0 p.slot : Nat), .int .i64 p.kind] 26)
      have HO := Lib.hid (And.intro ho (And.intro hp hq))
      clear hb K4 ho hp hq HD1
      unfold askV
      go_wp2_with fail
      refine (HD2.out _).mono ?_
      rintro e w6 ⟨o', ho', rfl, hb⟩
      obtain rfl := HO.out.1.one ho'
      rw [askO_eq, ← HO.out.2.1, ← HO.out.2.2]
      have K6 := Lib.hid (((K5.out.call hb).box #[.int .u64 p.id, .string (str p.addr), .int .u64 (l3 p.slot : Nat), .int .u64 (l2 p.slot : Nat), .int .u64 (l1 p.slot : Nat), .int .u64 (l0 p.slot : Nat), .int .i64 p.kind] 31).call (Below.refl _ _).drew)
      clear hb K5 ho' HO HD2
      unfold askV
      go_wp2_with fail
      generalize w5.heap.size = g5 at *
      generalize w6.heap.size = g6 at *
      have H0 := K6.out
      have HRF := Lib.hid (fun V => refAsk_c p V)
      have hre := req_ask p
      unfold askV at HRF hre
      have HS := Lib.hid (fun (V : World) (hV : Kb w [(g6, #[.int .u64 p.id, .string (str p.addr), .int .u64 (l3 p.slot : Nat), .int .u64 (l2 p.slot : Nat), .int .u64 (l1 p.slot : Nat), .int .u64 (l0 p.slot : Nat), .int .i64 p.kind], 31), (g5, #[.int .u64 p.id, .string (str p.addr), .int .u64 (l3 p.slot : Nat), .int .u64 (l2 p.slot : Nat), .int .u64 (l1 p.slot : Nat), .int .u64 (l0 p.slot : Nat), .int .i64 p.kind], 26), (w.heap.size, #[.int .u64 a.id, .string (str a.addr), .int .u64 (l3 a.slot : Nat), .int .u64 (l2 a.slot : Nat), .int .u64 (l1 a.slot : Nat), .int .u64 (l0 a.slot : Nat), .int .i64 a.kind], 26)] V) => And.intro (cells7 (hV.get (.tail _ (.head _)))).1 (cells7 (hV.get (.head _))).1)
      refine Drawn.start (fun V => Kb w [(g6, #[.int .u64 p.id, .string (str p.addr), .int .u64 (l3 p.slot : Nat), .int .u64 (l2 p.slot : Nat), .int .u64 (l1 p.slot : Nat), .int .u64 (l0 p.slot : Nat), .int .i64 p.kind], 31), (g5, #[.int .u64 p.id, .string (str p.addr), .int .u64 (l3 p.slot : Nat), .int .u64 (l2 p.slot : Nat), .int .u64 (l1 p.slot : Nat), .int .u64 (l0 p.slot : Nat), .int .i64 p.kind], 26), (w.heap.size, #[.int .u64 a.id, .string (str a.addr), .int .u64 (l3 a.slot : Nat), .int .u64 (l2 a.slot : Nat), .int .u64 (l1 a.slot : Nat), .int .u64 (l0 a.slot : Nat), .int .i64 a.kind], 26)] V) (fun _ => false) (by kernel_rfl) ?_
      refine Drawn.take 0 (some 74) (v := ?_) rfl rfl (by kernel_rfl) (by kernel_rfl) (by kernel_rfl) (by kernel_rfl) (by kernel_rfl) rfl (fun _ _ _ h => h) (Or.inl ⟨rfl, ?_⟩) H0 ?_
      rotate_left
      · intro W hW; have hW := HS.out W hW; go_simp; try with_reducible rfl
      simp only [put_list, List.set]
      refine Drawn.take 1 (some 75) (v := ?_) rfl rfl (by kernel_rfl) (by kernel_rfl) (by kernel_rfl) (by kernel_rfl) (by kernel_rfl) rfl (fun _ _ _ h => h) (Or.inl ⟨rfl, ?_⟩) H0 ?_
      rotate_left
      · intro W hW; have hW := HS.out W hW; go_simp; try with_reducible rfl
      simp only [put_list, List.set]
      refine Drawn.take 2 (some 76) (v := ?_) rfl rfl (by kernel_rfl) (by kernel_rfl) (by kernel_rfl) (by kernel_rfl) (by kernel_rfl) rfl (fun _ _ _ h => h) (Or.inl ⟨rfl, ?_⟩) H0 ?_
      rotate_left
      · intro W hW; have hW := HS.out W hW; go_simp; try with_reducible rfl
      simp only [put_list, List.set]
      refine Drawn.take 3 (some 77) (v := ?_) rfl rfl (by kernel_rfl) (by kernel_rfl) (by kernel_rfl) (by kernel_rfl) (by kernel_rfl) rfl (fun _ _ _ h => h) (Or.inl ⟨rfl, ?_⟩) H0 ?_
      rotate_left
      · intro W hW; have hW := HS.out W hW; go_simp; try with_reducible rfl
      simp only [put_list, List.set]
      refine Drawn.take 4 (some 78) (v := ?_) rfl rfl (by kernel_rfl) (by kernel_rfl) (by kernel_rfl) (by kernel_rfl) (by kernel_rfl) rfl (fun _ _ _ h => h) (Or.inl ⟨rfl, ?_⟩) H0 ?_
      rotate_left
      · intro W hW; have hW := HS.out W hW; go_simp; try with_reducible rfl
      simp only [put_list, List.set]
      refine Drawn.take 5 (some 79) (v := ?_) rfl rfl (by kernel_rfl) (by kernel_rfl) (by kernel_rfl) (by kernel_rfl) (by kernel_rfl) rfl (fun _ _ _ h => h) (Or.inl ⟨rfl, ?_⟩) H0 ?_
      rotate_left
      · intro W hW; have hW := HS.out W hW; go_simp; try with_reducible rfl
      simp only [put_list, List.set]
      refine Drawn.take 6 (some 80) (v := ?_) rfl rfl (by kernel_rfl) (by kernel_rfl) (by kernel_rfl) (by kernel_rfl) (by kernel_rfl) rfl (fun _ _ _ h => h) (Or.inl ⟨rfl, ?_⟩) H0 ?_
      rotate_left
      · intro W hW; have hW := HS.out W hW; go_simp; try with_reducible rfl
      simp only [put_list, List.set]
      refine Drawn.take 7 (some 81) (v := ?_) rfl rfl (by kernel_rfl) (by kernel_rfl) (by kernel_rfl) (by kernel_rfl) (by kernel_rfl) rfl (fun _ _ _ h => h) (Or.inl ⟨rfl, ?_⟩) H0 ?_
      rotate_left
      · intro W hW; have hW := HS.out W hW; go_simp; try with_reducible rfl
      simp only [put_list, List.set]
      refine Drawn.take 8 (some 82) (v := ?_) rfl rfl (by kernel_rfl) (by kernel_rfl) (by kernel_rfl) (by kernel_rfl) (by kernel_rfl) rfl (fun _ _ _ h => h) (Or.inl ⟨rfl, ?_⟩) H0 ?_
      rotate_left
      · intro W hW; have hW := HS.out W hW; go_simp; try with_reducible rfl
      simp only [put_list, List.set]
      refine Drawn.take 9 (some 83) (v := ?_) rfl rfl (by kernel_rfl) (by kernel_rfl) (by kernel_rfl) (by kernel_rfl) (by kernel_rfl) rfl (fun _ _ _ h => h) (Or.inl ⟨rfl, ?_⟩) H0 ?_
      rotate_left
      · intro W hW; have hW := HS.out W hW; go_simp; try with_reducible rfl
      simp only [put_list, List.set]
      refine Drawn.take 10 (some 84) (v := ?_) rfl rfl (by kernel_rfl) (by kernel_rfl) (by kernel_rfl) (by kernel_rfl) (by kernel_rfl) rfl (fun _ _ _ h => h) (Or.inl ⟨rfl, ?_⟩) H0 ?_
      rotate_left
      · intro W hW; have hW := HS.out W hW; go_simp; try with_reducible rfl
      simp only [put_list, List.set]
      refine Drawn.take 11 (some 85) (v := ?_) rfl rfl (by kernel_rfl) (by kernel_rfl) (by kernel_rfl) (by kernel_rfl) (by kernel_rfl) rfl (fun _ _ _ h => h) (Or.inl ⟨rfl, ?_⟩) H0 ?_
      rotate_left
      · intro W hW; have hW := HS.out W hW; go_simp; try with_reducible rfl
      simp only [put_list, List.set]
      refine Drawn.take 12 (some 86) (v := ?_) rfl rfl (by kernel_rfl) (by kernel_rfl) (by kernel_rfl) (by kernel_rfl) (by kernel_rfl) rfl (fun _ _ _ h => h) (Or.inl ⟨rfl, ?_⟩) H0 ?_
      rotate_left
      · intro W hW; have hW := HS.out W hW; go_simp; try with_reducible rfl
      simp only [put_list, List.set]
      refine Drawn.take 14 (some 88) (v := ?_) rfl rfl (by kernel_rfl) (by kernel_rfl) (by kernel_rfl) (by kernel_rfl) (by kernel_rfl) rfl (fun _ _ _ h => h) (Or.inl ⟨rfl, ?_⟩) H0 ?_
      rotate_left
      · intro W hW; have hW := HS.out W hW; go_simp; try with_reducible rfl
      simp only [put_list, List.set]
      refine Drawn.only 13 (by kernel_rfl) rfl rfl (fun K hK => ?_)
      go_simp
      refine (HRF.out _).mono ?_
      rintro e w9 ⟨rfl, hb⟩
      refine hK _ _ (fun _ _ => H0.call hb) ?_
      replace H0 := H0.call hb
      clear hK K hb
      try simp only [put_list, List.set]
      refine Drawn.take 15 (some 89) (v := ?_) rfl rfl (by kernel_rfl) (by kernel_rfl) (by kernel_rfl) (by kernel_rfl) (by kernel_rfl) rfl (fun _ _ _ h => h) (Or.inl ⟨rfl, ?_⟩) H0 ?_
      rotate_left
      · intro W hW; have hW := HS.out W hW; go_simp; try with_reducible rfl
      simp only [put_list, List.set]
      refine Drawn.take 16 (some 90) (v := ?_) rfl rfl (by kernel_rfl) (by kernel_rfl) (by kernel_rfl) (by kernel_rfl) (by kernel_rfl) rfl (fun _ _ _ h => h) (Or.inl ⟨rfl, ?_⟩) H0 ?_
      rotate_left
      · intro W hW; have hW := HS.out W hW; go_simp; try with_reducible rfl
      simp only [put_list, List.set]
      refine Drawn.take 17 (some 91) (v := ?_) rfl rfl (by kernel_rfl) (by kernel_rfl) (by kernel_rfl) (by kernel_rfl) (by kernel_rfl) rfl (fun _ _ _ h => h) (Or.inl ⟨rfl, ?_⟩) H0 ?_
      rotate_left
      · intro W hW; have hW := HS.out W hW; go_simp; try with_reducible rfl
      simp only [put_list, List.set]
      refine Drawn.take 18 (some 92) (v := ?_) rfl rfl (by kernel_rfl) (by kernel_rfl) (by kernel_rfl) (by kernel_rfl) (by kernel_rfl) rfl (fun _ _ _ h => h) (Or.inl ⟨rfl, ?_⟩) H0 ?_
      rotate_left
      · intro W hW; have hW := HS.out W hW; go_simp; try with_reducible rfl
      simp only [put_list, List.set]
      refine Drawn.take 19 (some 93) (v := ?_) rfl rfl (by kernel_rfl) (by kernel_rfl) (by kernel_rfl) (by kernel_rfl) (by kernel_rfl) rfl (fun _ _ _ h => h) (Or.inl ⟨rfl, ?_⟩) H0 ?_
      rotate_left
      · intro W hW; have hW := HS.out W hW; go_simp; try with_reducible rfl
      simp only [put_list, List.set]
      refine Drawn.take 20 (some 94) (v := ?_) rfl rfl (by kernel_rfl) (by kernel_rfl) (by kernel_rfl) (by kernel_rfl) (by kernel_rfl) rfl (fun _ _ _ h => h) (Or.inl ⟨rfl, ?_⟩) H0 ?_
      rotate_left
      · intro W hW; have hW := HS.out W hW; go_simp; try with_reducible rfl
      simp only [put_list, List.set]
      refine Drawn.take 21 (some 95) (v := ?_) rfl rfl (by kernel_rfl) (by kernel_rfl) (by kernel_rfl) (by kernel_rfl) (by kernel_rfl) rfl (fun _ _ _ h => h) (Or.inl ⟨rfl, ?_⟩) H0 ?_
      rotate_left
      · intro W hW; have hW := HS.out W hW; go_simp; try with_reducible rfl
      simp only [put_list, List.set]
      refine Drawn.take 22 (some 10) (v := ?_) rfl rfl (by kernel_rfl) (by kernel_rfl) (by kernel_rfl) (by kernel_rfl) (by kernel_rfl) rfl (fun _ _ _ h => h) (Or.inl ⟨rfl, ?_⟩) H0 ?_
      rotate_left
      · intro W hW; have hW := HS.out W hW; go_simp; try with_reducible rfl
      simp only [put_list, List.set]
      refine Drawn.done (by kernel_rfl) ?_ _
      have HB := Lib.hid H0.below
      clear H0 HS hre HRF K6
      go_wp2_with fail
      go_ret
      exact ⟨rfl, HB.out⟩
theorem asksA_c (k : Nat) (hk : k < M64) (n : Nat) (hn : n < W256) (z : Int) (hz : -9223372036854775808 ≤ z ∧ z ≤ 9223372036854775807) (d : ByteArray) (s : ByteArray) (own : Bool) (at3 : Int) (hat : -9223372036854775808 ≤ at3 ∧ at3 ≤ 9223372036854775807) (by4 : Nat) (hby : by4 < 256) (w : World) :
    Calls Try.prog 3 #[.agg #[.int .u64 k, .string d, .int .u64 (l3 n : Nat), .int .u64 (l2 n : Nat), .int .u64 (l1 n : Nat), .int .u64 (l0 n : Nat), .int .i64 z], .string s, .bool own, .int .i64 at3, .int .u8 by4] w fun e w' => e = .returned (.bool true) ∧ Below w.heap.size w w' := by
  have h := asks_c (a := ⟨k, d.data.toList, n, z⟩) ⟨hk, hn, hz⟩ s.data.toList own at3 hat by4 hby w
  unfold askV at h
  rwa [str_of', str_of'] at h
end Go.Proofs.Ytbhijjegkpjkcaa
end
section
namespace Go.Proofs.Ytbhijjegkpjkcaa
open Go.RowKit

/-- The reference's sum n behind k bits of c. -/
def bitsN (n c : Nat) : Nat → Nat
  | 0 => n
  | k + 1 => stepN (bitsN n c k) (c / 2 ^ k)
theorem bitsN_lt {n : Nat} (hn : n < 2 ^ 32) (c k : Nat) : bitsN n c k < 2 ^ 32 := by
  cases k with
  | zero => exact hn
  | succ k =>
    show stepN _ _ < _
    exact stepN_lt (by
      induction k with
      | zero => exact hn
      | succ k ih => exact stepN_lt ih _) _
theorem bitsN_mv (n c k : Nat) : mvk k (n ^^^ c) = bitsN n c k ^^^ c / 2 ^ k := by
  induction k with
  | zero => simp [mvk, bitsN]
  | succ k ih => rw [mvk, ih, step_mv, bitsN, Nat.div_div_eq_div_mul, Nat.pow_succ]
theorem bitsN_byte {c : Nat} (hc : c < 256) (n : Nat) : bitsN n c 8 = mvk 8 (n ^^^ c) := by
  rw [bitsN_mv, Nat.div_eq_of_lt (show c < 2 ^ 8 from hc), Nat.xor_zero]

set_option maxRecDepth 100000 in
set_option maxHeartbeats 2000000 in
theorem rmore_c {sum : Nat} (hm : sum < 2 ^ 32) {s : ByteArray} (hs : s.size ≤ maxLen) (w : World) :
    Calls Try.prog 53 #[.int .u32 sum, .string s] w fun e w' => e = .returned (.int .u32 (moreN sum (byteAtK s) s.size : Nat)) ∧ w = w' := by
  have HX := Lib.hid (fun i j hj e W => index_i64K s i j hj e W)
  have HL := Lib.hid (fun k => cf_lt (Nat.xor_lt_two_pow (show F32 < 2 ^ 32 by decide) hm) (byteAt_ltK s) k)
  have h0 := not32 hm
  have hsg : IntKind.u32.signed = false := rfl
  have HF := Lib.hid (show moreN sum (byteAtK s) s.size = F32 ^^^ cf (F32 ^^^ sum) (byteAtK s) s.size from rfl)
  have HN := Lib.hid (fun k => show cf (F32 ^^^ sum) (byteAtK s) (k + 1) = mvk 8 (cf (F32 ^^^ sum) (byteAtK s) k ^^^ byteAtK s k) from rfl)
  have HZ := Lib.hid (show cf (F32 ^^^ sum) (byteAtK s) 0 = F32 ^^^ sum from rfl)
  generalize moreN sum (byteAtK s) s.size = out at *
  generalize F32 ^^^ sum = i0 at *
  have HS := Lib.hid hs; clear hs
  go_enter Try.func53, Try.ntmps53
  go_wp2_with fail
  go_loop [0, 5] (fun c i => ∃ k : Nat, k ≤ s.size ∧ i = .int .i64 k ∧ c = .int .u32 (cf i0 (byteAtK s) k : Nat)) (fun _ i => s.size - (intOf i).toNat)
  case atStart => exact ⟨0, by omega, rfl, by rw [HZ.out]⟩
  case round =>
    obtain ⟨k, hk, rfl, rfl⟩ := hrel
    by_cases hlt : k < s.size
    · have hx := fun W => HX.out (k : Int) k hlt rfl W
      have hl := HL.out k
      have hb := byteAt_ltK s k
      have hw : IntKind.i64.wrap ((k : Int) + 1) = (k : Int) + 1 := IntWalk.i64_in _ (by have := HS.out; unfold maxLen at this; omega)
      have hlti : (k : Int) < (s.size : Int) := by omega
      have HN' := Lib.hid (HN.out k)
      clear HN HX HL
      rw [← bitsN_byte hb] at HN'
      have BL := Lib.hid (fun j => bitsN_lt hl (byteAtK s k) j)
      generalize cf i0 (byteAtK s) k = x at *
      generalize byteAtK s k = y at *
      have hyj := Lib.hid (fun j : Nat => show y / 2 ^ j < 256 from Nat.lt_of_le_of_lt (Nat.div_le_self _ _) hb)
      go_wp2_with fail
      go_loop [0, 6] (fun c i => ∃ j : Nat, j ≤ 8 ∧ i = .int .i64 j ∧ c = .int .u32 (bitsN x y j : Nat)) (fun _ i => 8 - (intOf i).toNat)
      case atStart => exact ⟨0, by omega, rfl, rfl⟩
      case round =>
        obtain ⟨j, hj, rfl, rfl⟩ := hrel
        by_cases hlt2 : j < 8
        · have R := Lib.hid (fun W => step_c (BL.out j) (show y / 2 ^ j < 2 ^ 32 by have := hyj.out j; omega) W)
          rw [show stepN (bitsN x y j) (y / 2 ^ j) = bitsN x y (j + 1) from rfl] at R
          have h8 : IntKind.u32.wrap ((y / 2 ^ j : Nat) : Int) = ((y / 2 ^ j : Nat) : Int) := wrap32 (by have := hyj.out j; omega)
          have hq : (y : Int) / 2 ^ j = ((y / 2 ^ j : Nat) : Int) := by simp
          clear hyj BL
          generalize y / 2 ^ j = q at *
          generalize hz : bitsN x y (j + 1) = z at *
          have HJ := Lib.hid hz; clear hz
          generalize bitsN x y j = v at *
          have hlt3 : (j : Int) < 8 := by omega
          go_wp2_with fail
          go_at_call 76
          refine (R.out _).mono ?_
          rintro e W ⟨rfl, rfl⟩
          clear R
          go_wp2_with fail
          go_round
          case rel => exact ⟨j + 1, by omega, by go_num, by rw [HJ.out]⟩
          case measure => simp [intOf]; omega
        · obtain rfl : j = 8 := by omega
          go_wp2_with fail
          go_round
          case rel => exact ⟨k + 1, by omega, by go_num, by rw [HN'.out]⟩
          case measure => simp [intOf]; omega
    · obtain rfl : k = s.size := by omega
      have h5 := not32 (HL.out s.size)
      rw [← HF.out] at h5
      clear HN HL HX h0
      go_wp2_with fail
      go_ret
      exact ⟨rfl, rfl⟩

set_option maxRecDepth 100000 in
set_option maxHeartbeats 1000000 in
theorem rsum_c {s : ByteArray} (hs : s.size ≤ maxLen) (w : World) :
    Calls Try.prog 33 #[.string s] w fun e w' => e = .returned (.int .u32 (sumN s : Nat)) ∧ w = w' := by
  have HT := Lib.hid (rmore_c (show 0 < 2 ^ 32 by decide) hs w)
  rw [show moreN 0 (byteAtK s) s.size = sumN s from rfl] at HT
  generalize sumN s = z at *
  clear hs
  go_enter Try.func33, Try.ntmps33
  go_wp2_with fail
  go_at_call 53
  refine HT.out.mono ?_
  rintro e w1 ⟨rfl, rfl⟩
  clear HT
  go_wp2_with fail
  go_ret
  exact ⟨rfl, rfl⟩

end Go.Proofs.Ytbhijjegkpjkcaa
end
