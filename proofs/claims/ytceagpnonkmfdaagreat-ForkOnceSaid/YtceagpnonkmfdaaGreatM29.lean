/- Merged: Fx. -/
import Derived.Test.YtceagpnonkmfdaaGreatM28
section
namespace Go.Proofs.YtceagpnonkmfdaaGreat.Dz
open Go.RowKit
abbrev wdO (n : Nat) : Obj := .cells #[.int .u64 (l3 n : Nat), .int .u64 (l2 n : Nat), .int .u64 (l1 n : Nat), .int .u64 (l0 n : Nat)] 51 (0, 0)
theorem Of.src {B : Nat} {e : TypeId} {l : List Value} {a : Option Addr} {n c : Nat} {W : World} (h : Of B e l (.slice a n c) W) : Src l a W := by
  rcases h with ⟨_, rfl⟩ | ⟨g, o, c', cur, hv, _, h2, _, _, _, h6⟩
  · exact Or.inl rfl
  · cases hv
    refine Or.inr ⟨_, rfl, fun j u hj => ?_⟩
    have e : (⟨g, o, none⟩ : Addr).add j = ⟨g, o + j, none⟩ := by unfold Addr.add; split <;> simp_all
    rw [e, cell_of h2]
    exact h6 j u hj
theorem eq_wd (n : Nat) (w : World) : (binOp .eql 51 (.agg #[.int .u64 (l3 n : Nat), .int .u64 (l2 n : Nat), .int .u64 (l1 n : Nat), .int .u64 (l0 n : Nat)]) (.agg #[.int .u64 (l3 n : Nat), .int .u64 (l2 n : Nat), .int .u64 (l1 n : Nat), .int .u64 (l0 n : Nat)])).run Tryz.prog w = .ok (.bool true) w := by
  have u3 := Tryz.underlying41
  have a3' := Tryz.isAgg41
  have z3 := Tryz.sizeOf41
  have hS : Tryz.prog.underlying 51 = some (.struct (Tryz.prog.fieldsOf 51)) := by kernel_rfl
  have hp : Tryz.prog.stoodInHeld 51 = false := by kernel_rfl
  rw [run_eql_struct, show (10000 : Nat) = 9999 + 1 from rfl, run_equalIn_agg w 9999 51 _ _ hS hp]
  simp only [Program.fieldsOf, Tryz.underlying51]
  go_simp
theorem accO (id nonce bal : Nat) (code : Nm) : accC (rC id nonce bal code) = #[.int .u64 nonce, .int .u64 (l3 bal : Nat), .int .u64 (l2 bal : Nat), .int .u64 (l1 bal : Nat), .int .u64 (l0 bal : Nat), .string (str code)] := rfl
theorem repC (id nonce bal : Nat) (code : Nm) : replyV (rC id nonce bal code) = .agg #[.int .u64 id, .int .u64 nonce, .int .u64 (l3 bal : Nat), .int .u64 (l2 bal : Nat), .int .u64 (l1 bal : Nat), .int .u64 (l0 bal : Nat), .string (str code), .int .u64 0, .int .u64 0, .int .u64 0, .int .u64 0] := by
  simp [replyV, rC, lim_zero]
theorem repVv (id v : Nat) : replyV (rV id v) = .agg #[.int .u64 id, .int .u64 0, .int .u64 0, .int .u64 0, .int .u64 0, .int .u64 0, .string ⟨#[]⟩, .int .u64 (l3 v : Nat), .int .u64 (l2 v : Nat), .int .u64 (l1 v : Nat), .int .u64 (l0 v : Nat)] := by
  have h0 : str [] = ⟨#[]⟩ := rfl
  simp [replyV, rV, lim_zero, h0]
set_option maxRecDepth 100000 in
set_option maxHeartbeats 8000000 in
theorem once_c (nonce bal k v wrong : Nat) (cs : Nm) (h0 : wrong < 256) (h1 : nonce < M64) (h2 : bal < W256) (h3 : k < W256) (h4 : v < W256) (W : World) :
    Calls Tryz.prog 4 #[.agg #[.int .u64 nonce, .int .u64 (l3 bal : Nat), .int .u64 (l2 bal : Nat), .int .u64 (l1 bal : Nat), .int .u64 (l0 bal : Nat), .string (str cs)], .agg #[.int .u64 (l3 k : Nat), .int .u64 (l2 k : Nat), .int .u64 (l1 k : Nat), .int .u64 (l0 k : Nat)], .agg #[.int .u64 (l3 v : Nat), .int .u64 (l2 v : Nat), .int .u64 (l1 v : Nat), .int .u64 (l0 v : Nat)], .int .u8 wrong] W fun e W' => e = .returned (.bool true) ∧ Below W.heap.size W W' := by
  obtain ⟨n, hrm, hr⟩ : ∃ n : Nat, (wrong : Int) % 5 = (n : Int) ∧ n ≤ 4 := ⟨wrong % 5, by omega, by omega⟩
  obtain ⟨m, hm⟩ : ∃ m, m = min cs.length 60 := ⟨_, rfl⟩
  have hst := str_take cs m
  have hml : m ≤ (str cs).size := by rw [str_size, hm]; exact Nat.min_le_left _ _
  have hsz : (str cs).size = cs.length := str_size _
  have hmin : min (cs.length : Int) 60 = (m : Int) := by omega
  have hcl : (cs.take m).length ≤ 60 := by rw [List.length_take]; omega
  clear hm
  go_enter Tryz.func4, Tryz.ntmps4
  go_wp2_with fail
  refine (exam_c _).mono ?_
  rintro e V1 ⟨rfl, hb⟩
  obtain ⟨oX, hoX⟩ : ∃ o : Obj, o = .cells #[.int .u64 nonce, .int .u64 (l3 bal : Nat), .int .u64 (l2 bal : Nat), .int .u64 (l1 bal : Nat), .int .u64 (l0 bal : Nat), .string (str cs)] 53 (0, 0) := ⟨_, rfl⟩
  have B0 := ((((Bl.start W).alloc oX).alloc (wdO k)).alloc (wdO v)).call (by rw [hoX]; exact hb)
  rw [alloc_size, alloc_size] at B0
  have B1 := B0.sub (L' := [(W.heap.size, oX), (W.heap.size + 1, wdO k), (W.heap.size + 1 + 1, wdO v)]) (by simp)
  have k1 := B1.at (q := W.heap.size) (o := oX) (List.mem_cons_self ..)
  rw [hoX] at k1
  have k2 := heap_setCell_same V1 W.heap.size 5 _ _ (.string (str (cs.take m))) k1
  have B2 := B1.put (chg_set (F := fun k => k = W.heap.size) (F' := fun k => k = W.heap.size) (Chg.refl _ V1) (Or.inl rfl) 5 (.string (str (cs.take m)))) (o' := acO (rC 0 nonce bal (cs.take m))) (by rw [k2]; rfl) (by simp; omega)
  obtain ⟨⟨_, _, _, _, _, c5⟩, _, _, _, _, _, d5⟩ := cells6 k1
  clear k1 k2 B0 B1 hb hoX
  have HB := Lib.hid B2
  clear B2
  go_wp2_with fail
  refine (on_new 100000 (by omega) _).mono ?_
  rintro e W1 ⟨d, rfl, F1, h5, h6⟩
  have HN := Lib.hid (cnew_c (name := nmC) h5 (by show (1 : Nat) ≤ maxLen; unfold maxLen; omega) (l := []) (r := []) Fs.nil)
  have H1 := Lib.hid (And.intro h5 h6)
  clear h5 h6 c5 d5 hst hml hsz hmin
  go_wp2_with fail
  refine HN.out.mono ?_
  rintro e W2 ⟨rfl, h5, h6⟩
  have M2 := Am.new2 (name := nmC) (l := []) HB.out.below H1.out.1 H1.out.2 h5 h6 (L := [(W.heap.size, acO (rC 0 nonce bal (cs.take m))), (W.heap.size + 1, wdO k), (W.heap.size + 1 + 1, wdO v)]) (fun x hx => HB.out.box x hx)
  clear HN h5 h6 HB H1
  generalize W1.heap.size + 1 = b at *
  generalize W1.heap.size = mm at *
  have HM2 := Lib.hid M2
  clear M2
  have HG0 := Lib.hid hr
  clear hr
  go_wp2_with fail
  go_loopw [14, 15] (fun v i wr => ∃ j : Nat, i = .int .i64 j ∧ j ≤ n ∧ Below W2.heap.size W2 wr ∧ OwnS W2.heap.size (List.replicate j wrongP) v wr) (fun _ i _ => n - (intOf i).toNat)
  case atStart => exact ⟨0, rfl, by omega, Below.refl _ _, World.ownsRow_nil _ _ _ _⟩
  case round =>
    obtain ⟨j, rfl, hj, hb, ho⟩ := hrel
    by_cases hlt : j < n
    · have hlti : (j : Int) < (n : Int) := by omega
      have hw : IntKind.i64.wrap ((j : Int) + 1) = (j : Int) + 1 := IntWalk.i64_in _ (by have := HG0.out; omega)
      obtain ⟨va, vc, rfl⟩ := ho.form
      have HG := Lib.hid (And.intro hb (And.intro ho hlt))
      clear hb ho hj hlt
      go_wp2_with (at_builtin; refine wpList_append_one rfl _ _ 38 9 rfl Tryz.underlying38 _ 16 infoStr rfl (by omega) W2.heap.size (.slice va (List.replicate j wrongP).length vc) (List.replicate j wrongP).length ((List.replicate j wrongP).map encS) (by rfl) (own_keep HG.out.2.1 fun k' hk' => Below.heap_alloc _ _ _ (HG.out.2.1.lt hk').2) wr.heap.size (.string (str wrongP)) rfl (by rfl) (heap_alloc_new _ _) (by have := HG.out.1.size; simp; omega) (by have := HG.out.2.2; have := HG0.out; rw [List.length_replicate]; omega) ?_; intro v' W' q1 q2 q3; have q1' : OwnS W2.heap.size (List.replicate (j + 1) wrongP) v' W' := (by unfold OwnS; rw [List.replicate_succ', List.map_append, List.length_append]; exact q1); have hbel : Below W2.heap.size wr W' := (((Below.refl W2.heap.size wr).alloc HG.out.1.size _).trans (below_grown q2 (fun k' hk' => (HG.out.2.1.lt (k := k') hk').1) (by have := HG.out.1.size; simp; omega))); obtain ⟨a', c9, hf⟩ := q1'.form; have HZ9 := Lib.hid (And.intro (HG.out.1.trans hbel) q1'); clear q1 q1' q2 q3 hbel; generalize hn9 : (List.replicate (j + 1) wrongP).length = n9 at hf; clear hn9; subst hf)
      exact ⟨⟨j + 1, by go_num, by have := HG.out.2.2; omega, HZ9.out⟩, by have := HG.out.2.2; simp [intOf]; omega⟩
    · obtain rfl : j = n := by omega
      have hlti : ¬ ((j : Nat) : Int) < (j : Int) := by omega
      obtain ⟨va, vc, rfl⟩ := ho.form
      have M2 := HM2.out.call hb
      have HO := Lib.hid (And.intro hb ho)
      have k1 := M2.at (q := W.heap.size) (o := acO (rC 0 nonce bal (cs.take m))) (List.mem_cons_self ..)
      unfold acO at k1
      rw [accO] at k1
      obtain ⟨⟨x0, x1, x2, x3, x4, x5⟩, _⟩ := cells6 k1
      have HM3 := Lib.hid M2
      obtain ⟨n1, hn1⟩ : ∃ n1, n1 = j + 1 := ⟨_, rfl⟩
      obtain ⟨n2, hn2⟩ : ∃ n2, n2 = j + 2 := ⟨_, rfl⟩
      have w1 : IntKind.i64.wrap ((j : Int) + 1) = (n1 : Int) := by rw [IntWalk.i64_in _ (by have := HG0.out; omega)]; omega
      have w2 : IntKind.u64.wrap (n1 : Int) = (n1 : Int) := by rw [IntKind.wrap_u64]; have := HG0.out; omega
      have w3 : IntKind.i64.wrap ((j : Int) + 2) = (n2 : Int) := by rw [IntWalk.i64_in _ (by have := HG0.out; omega)]; omega
      have w4 : IntKind.u64.wrap (n2 : Int) = (n2 : Int) := by rw [IntKind.wrap_u64]; have := HG0.out; omega
      have Q1 := Lib.hid (fun V => putReply_ok (kind := 1) (rC_wf (id := n1) (cs.take m) (by have := HG0.out; unfold M64; omega) h1 h2) (rC_ok n1 nonce bal hcl) V)
      have Q2 := Lib.hid (fun V => putReply_ok (kind := 2) (rV_wf (id := n2) (v := v) (by have := HG0.out; unfold M64; omega) h4) (rV_ok n2 v) V)
      rw [repC] at Q1
      rw [repVv] at Q2
      have HN := Lib.hid (And.intro hn1 hn2)
      have HH := Lib.hid (And.intro h1 (And.intro h2 (And.intro h3 (And.intro h4 hcl))))
      clear M2 k1 hj hlt hb ho hn1 hn2 h1 h2 h3 h4 hcl hrm
      go_wp2_with fail
      refine (Q1.out _).mono ?_
      rintro e W3 ⟨rfl, hb⟩
      have M3 := HM3.out.call hb
      have hB3 := HO.out.1.trans (hb.mono HO.out.1.size)
      have hO3 := HO.out.2.keep hb
      obtain ⟨⟨y0, y1, y2, y3⟩, _⟩ := cells4 (M3.at (q := W.heap.size + 1 + 1) (o := wdO v) (List.mem_cons_of_mem _ (List.mem_cons_of_mem _ (List.mem_cons_self ..))))
      have HO3 := Lib.hid (And.intro hB3 hO3)
      clear HO HM3 hb x0 x1 x2 x3 x4 x5 Q1 M3 hB3 hO3
      go_wp2_with fail
      refine (Q2.out _).mono ?_
      rintro e W4 ⟨rfl, hb⟩
      have hB4 := HO3.out.1.trans (hb.mono HO3.out.1.size)
      have hO4 := HO3.out.2.keep hb
      rw [List.length_replicate] at hO4
      have HO4 := Lib.hid (And.intro hB4 hO4)
      clear HO3 hb y0 y1 y2 y3 Q2 hB4 hO4
      have AD := Lib.hid (fun V => address_c 0 (by omega) V)
      rw [show ((0 : Nat) : Int) = 0 from rfl] at AD
      have hln : (scriptO j ((rC n1 nonce bal (cs.take m)).enc 1) ((rV n2 v).enc 2)).length = n2 := by rw [HN.out.2]; simp [scriptO]
      obtain ⟨sp, hsp⟩ : ∃ sp, sp = ((rC n1 nonce bal (cs.take m)).enc 1) := ⟨_, rfl⟩
      obtain ⟨tp, htp⟩ : ∃ tp, tp = ((rV n2 v).enc 2) := ⟨_, rfl⟩
      rw [← hsp, ← htp] at hln ⊢
      have HST := Lib.hid (And.intro hsp htp)
      have HLN := Lib.hid hln
      clear hsp htp hln
      go_wp2_with (at_builtin; refine wpList_append_of rfl _ _ 38 9 rfl Tryz.underlying38 _ 16 infoStr rfl (by omega) W2.heap.size ((List.replicate j wrongP).map encS) ([sp, tp].map encS) (by rfl) (Of.own (own_keep HO4.out.2 fun k' hk' => Below.heap_alloc _ _ _ (HO4.out.2.lt hk').2)) (some ⟨W4.heap.size, 0, none⟩) 2 2 (by rfl) (by rfl) (src_lit W4 [sp, tp]) (encS_one _) (by have := HG0.out; simp; omega) (by have := HO4.out.1.size; simp; omega) ?_; intro v' W' q1 q2 q3; have q1' : Of W2.heap.size 9 ((scriptO j sp tp).map encS) v' W' := (by unfold scriptO; rw [List.map_append]; exact q1); have hbel : Below W2.heap.size W2 W' := HO4.out.1.trans (((Below.refl W2.heap.size W4).alloc HO4.out.1.size _).trans (below_grown q2 (fun k' hk' => (HO4.out.2.lt (k := k') hk').1) (by have := HO4.out.1.size; simp; omega))); have M5 := HM2.out.call hbel; obtain ⟨a', c9, hf⟩ := q1'.form; rw [List.length_map, HLN.out] at hf; subst hf; have HS0 := script_m M5.bo.at' (scriptO j sp tp) a' c9 (Of.src q1') (by rw [HLN.out]; have := HG0.out; have := HN.out; simp; omega); rw [HLN.out] at HS0; have HS := Lib.hid HS0; have HM5 := Lib.hid M5; clear q1 q1' q2 q3 hbel M5 HS0)
      refine HS.out.mono ?_
      rintro e W5 ⟨rfl, sv5, h5, h6⟩
      have M6 := HM5.out.client h5 h6
      clear HS HM5 h5 h6 HM2 HO4
      replace M6 : Am (Pd.new 100000) ⟨[], scriptO j sp tp, []⟩ nmC d 0 F1 b mm sv5 (.slice none 0 0) W (fun _ => False) [(W.heap.size, acO (rC 0 nonce bal (cs.take m))), (W.heap.size + 1, wdO k), (W.heap.size + 1 + 1, wdO v)] W5 := M6
      have HM6 := Lib.hid M6
      clear M6
      go_wp2_with fail
      refine (AD.out _).mono ?_
      rintro e W6 ⟨rfl, hb⟩
      have M7 := HM6.out.call hb
      clear HM6 hb
      have A1 := Lib.hid (acct_c M7.bo (addrP 0) (by simp) (by omega) (by show (1 : Nat) ≤ 1000000; omega))
      have HM7 := Lib.hid M7
      clear M7
      by_cases hj3 : 3 ≤ j
      · obtain ⟨q, hq, hA⟩ := once_far (s := sp) (t := tp) hj3
        rw [show askP nmC (Pd.new 100000) ⟨[], scriptO j sp tp, []⟩ ⟨0, addrP 0, 0, 1⟩ = _ from hA] at A1
        simp only at A1
        have EA := eq_acc ReplyP.zero
        rw [accZ] at A1 EA
        obtain ⟨l9, hl9⟩ : ∃ l9, l9 = j - 1 := ⟨_, rfl⟩
        have hlen : (List.replicate (j - 3) wrongP ++ [sp, tp]).length = l9 := by rw [hl9]; simp; omega
        have w5 : IntKind.i64.wrap ((n2 : Int) - 3) = (l9 : Int) := by rw [IntWalk.i64_in _ (by have := HG0.out; have := HN.out; omega)]; have := HN.out; omega
        have hge : (3 : Int) ≤ (j : Int) := by omega
        have HQ := Lib.hid (And.intro hq hlen)
        clear hA hq hlen hl9 hj3 HG0
        go_wp2_with fail
        refine A1.out.mono ?_
        rintro e W7 ⟨rfl, F7, sv7, av7, hB, hC⟩
        have M8 := (HM7.out.step hB hC).alloc (acO ReplyP.zero)
        clear HM7 A1 hB hC
        unfold acO at M8
        rw [accZ] at M8
        obtain ⟨⟨z0, z1, z2, z3, z4, z5⟩, _⟩ := cells6 (M8.at (q := W7.heap.size) (List.mem_cons_self ..))
        have AK := Lib.hid (asked_c M8.bo.at' (by show q.length ≤ _; rw [HQ.out.1]; omega))
        have HM8 := Lib.hid M8
        clear M8
        go_wp2_with fail
        refine AK.out.mono ?_
        rintro e W8 ⟨v8, rfl, ho8, hb⟩
        have M9 := HM8.out.call hb
        obtain ⟨a8, c8, hf8⟩ := ho8.form
        rw [show (Cl.asked ⟨[], List.replicate (j - 3) wrongP ++ [sp, tp], q⟩).length = 3 from HQ.out.1] at hf8
        subst hf8
        have KN := Lib.hid (known_c M9.bo.at')
        have LF := Lib.hid (left_c M9.bo.at')
        rw [show (Cl.script ⟨[], List.replicate (j - 3) wrongP ++ [sp, tp], q⟩).length = l9 from HQ.out.2] at LF
        have HM9 := Lib.hid M9
        clear M9 HM8 ho8 hb AK
        go_wp2_with fail
        refine KN.out.mono ?_
        rintro e W9 ⟨rfl, rfl⟩
        clear KN
        go_wp2_with fail
        refine LF.out.mono ?_
        rintro e W10 ⟨rfl, rfl⟩
        clear LF
        go_wp2_with fail
        go_ret
        exact ⟨rfl, HM9.out.bel⟩
      · have hj2 : j ≤ 2 := by omega
        obtain ⟨p1, p2, s1, q1, q2, hA, hq1, hB2, hq2, hC2, ⟨lk, hFs, hkn⟩, hD2⟩ := once_near (code := cs.take m) hj2 HH.out.1 HH.out.2.1 HH.out.2.2.2.2 HH.out.2.2.1 HH.out.2.2.2.1
        rw [← HN.out.1, ← HN.out.2, ← HST.out.1, ← HST.out.2] at hA
        rw [← HN.out.2] at hq2
        obtain ⟨rA, hrA⟩ : ∃ rA, rA = rC 0 nonce bal (cs.take m) := ⟨_, rfl⟩
        obtain ⟨K2, hK2⟩ : ∃ K2, K2 = [(aX, rA), (aK k, rV 0 v)] := ⟨_, rfl⟩
        rw [← hrA] at hA hB2 hC2 hkn hD2
        rw [← hK2] at hB2 hC2 hkn hD2
        have hKl : K2.length = 2 := by rw [hK2]; rfl
        have hAcc : accC rA = #[.int .u64 nonce, .int .u64 (l3 bal : Nat), .int .u64 (l2 bal : Nat), .int .u64 (l1 bal : Nat), .int .u64 (l0 bal : Nat), .string (str (cs.take m))] := by rw [hrA]; rfl
        rw [show askP nmC (Pd.new 100000) ⟨[], scriptO j sp tp, []⟩ ⟨0, addrP 0, 0, 1⟩ = _ from hA] at A1
        simp only at A1
        have EA := eq_acc rA
        have EW := eq_wd v
        rw [hAcc] at A1 EA
        have hge : ¬ (3 : Int) ≤ (j : Int) := by omega
        have HFs := Lib.hid (And.intro hFs hkn)
        have SL := Lib.hid (fun V F sv av N (hN : N < 900000) (hB : Bo p1 ⟨[(aX, rA)], s1, q1⟩ nmC d N F b mm sv av V) => slot_c hB (addrP 0) k HH.out.2.2.1 (by show q1.length ≤ _; omega) hN (by show (1 : Nat) ≤ 1000000; omega))
        rw [show askP nmC p1 ⟨[(aX, rA)], s1, q1⟩ ⟨0, addrP 0, k, 2⟩ = _ from hB2] at SL
        simp only at SL
        rw [show valC (rV 0 v) = #[.int .u64 (l3 v : Nat), .int .u64 (l2 v : Nat), .int .u64 (l1 v : Nat), .int .u64 (l0 v : Nat)] from rfl] at SL
        have A3 := Lib.hid (fun V F sv av N (hN : N < 900000) (hB : Bo p2 ⟨K2, [], q2⟩ nmC d N F b mm sv av V) => acct_c hB (addrP 0) (by show q2.length ≤ _; have := HG0.out; have := HN.out; omega) hN (by show (1 : Nat) ≤ 1000000; omega))
        rw [show askP nmC p2 ⟨K2, [], q2⟩ ⟨0, addrP 0, 0, 1⟩ = _ from hC2] at A3
        simp only at A3
        rw [hAcc] at A3
        have A4 := Lib.hid (fun V F sv av b mm N (hN : N < 900000) (hB : Bo p2 ⟨K2, [], []⟩ nmC d N F b mm sv av V) => acct_c hB (addrP 0) (by show 0 ≤ 1000000; omega) hN (by show (1 : Nat) ≤ 1000000; omega))
        rw [show askP nmC p2 ⟨K2, [], []⟩ ⟨0, addrP 0, 0, 1⟩ = _ from (hD2 []).1] at A4
        simp only at A4
        rw [hAcc] at A4
        have S4 := Lib.hid (fun V F sv av b mm N (hN : N < 900000) (hB : Bo p2 ⟨K2, [], []⟩ nmC d N F b mm sv av V) => slot_c hB (addrP 0) k HH.out.2.2.1 (by show 0 ≤ 1000000; omega) hN (by show (1 : Nat) ≤ 1000000; omega))
        rw [show askP nmC p2 ⟨K2, [], []⟩ ⟨0, addrP 0, k, 2⟩ = _ from (hD2 []).2] at S4
        simp only at S4
        rw [show valC (rV 0 v) = #[.int .u64 (l3 v : Nat), .int .u64 (l2 v : Nat), .int .u64 (l1 v : Nat), .int .u64 (l0 v : Nat)] from rfl] at S4
        have hr2 := Lib.hid (show n2 ≤ 6 from by have := HG0.out; have := HN.out; omega)
        have HQ := Lib.hid (And.intro hq2 hKl)
        obtain ⟨oA, hoA⟩ : ∃ oA : Obj, oA = .cells #[.int .u64 nonce, .int .u64 (l3 bal : Nat), .int .u64 (l2 bal : Nat), .int .u64 (l1 bal : Nat), .int .u64 (l0 bal : Nat), .string (str (cs.take m))] 53 (0, 0) := ⟨_, rfl⟩
        have hL3 : acO (rC 0 nonce bal (cs.take m)) = oA := by rw [hoA]; rfl
        rw [hL3] at HM7
        have HOA := Lib.hid hoA
        clear hA hq1 hB2 hq2 hC2 hFs hkn hD2 hK2 hrA hKl hAcc hj2 hj3 HG0 HN hoA hL3 HST HLN
        go_wp2_with fail
        refine A1.out.mono ?_
        rintro e W7 ⟨rfl, F7, sv7, av7, hB, hC⟩
        have M8 := (HM7.out.step hB hC).alloc oA
        rw [HOA.out] at M8
        clear HM7 A1 hB hC
        go_upto_region 23 with fail
        rw [← HOA.out] at M8 ⊢
        obtain ⟨q20, hq20⟩ : ∃ q, q = W7.heap.size := ⟨_, rfl⟩
        rw [← hq20] at M8 ⊢
        clear hq20
        generalize World.alloc W7 _ = V8 at M8 ⊢
        have HM8 := Lib.hid M8
        clear M8
        go_cut [22, 23] from 130 (fun p g wx => ∃ q22 N F sv av, N < 1000 ∧ p = .pointer (some ⟨q22, 0, none⟩) ∧ g = .int .i64 0 ∧ Am p2 ⟨K2, [], q2⟩ nmC d N F b mm sv av W (fun _ => False) ((q22, wdO v) :: (q20, oA) :: [(W.heap.size, oA), (W.heap.size + 1, wdO k), (W.heap.size + 1 + 1, wdO v)]) wx)
        case first =>
          have MD := HM8.out.call (Below.refl _ _).drew
          have H0 := MD.at (q := W.heap.size + 1) (o := wdO k) (List.mem_cons_of_mem _ (List.mem_cons_of_mem _ (List.mem_cons_self ..)))
          have HS := Lib.hid (fun (V : World) (hV : V.heap[W.heap.size + 1]? = some (wdO k)) => (cells4 hV).1)
          refine Drawn.start (fun V => V.heap[W.heap.size + 1]? = some (wdO k)) (fun _ => false) (by kernel_rfl) ?_
          generalize World.drew _ = V9 at MD H0 ⊢
          refine Drawn.take 0 (some 130) (v := ?_) rfl rfl (by kernel_rfl) (by kernel_rfl) (by kernel_rfl) (by kernel_rfl) (by kernel_rfl) rfl (fun _ _ _ h => h) (Or.inl ⟨rfl, ?_⟩) H0 ?_
          rotate_left
          · intro W hW; have hW := HS.out W hW; go_simp; try with_reducible rfl
          simp only [put_list, List.set]
          refine Drawn.take 2 (some 132) (v := ?_) rfl rfl (by kernel_rfl) (by kernel_rfl) (by kernel_rfl) (by kernel_rfl) (by kernel_rfl) rfl (fun _ _ _ h => h) (Or.inl ⟨rfl, ?_⟩) H0 ?_
          rotate_left
          · intro W hW; have hW := HS.out W hW; go_simp; try with_reducible rfl
          simp only [put_list, List.set]
          refine Drawn.among [1, 7] (by kernel_rfl) (by decide) ?_
          intro i hi
          simp only [List.mem_cons, List.not_mem_nil, or_false] at hi
          rcases hi with rfl | rfl
          · refine ⟨_, rfl, rfl, fun K hK => ?_⟩
            go_simp
            refine (AD.out _).mono ?_
            rintro e VA ⟨rfl, hb⟩
            replace MD := MD.call hb
            replace H0 := (hb.block _ (lt_of H0)).trans H0
            refine hK _ _ (fun _ _ => H0) ?_
            clear hK K hb
            try simp only [put_list, List.set]
            refine Drawn.among [3, 7] (by kernel_rfl) (by decide) ?_
            intro i hi
            simp only [List.mem_cons, List.not_mem_nil, or_false] at hi
            rcases hi with rfl | rfl
            · refine ⟨_, rfl, rfl, fun K hK => ?_⟩
              go_simp
              refine (SL.out _ _ _ _ _ (by omega) MD.bo).mono ?_
              rintro e VB ⟨rfl, F9, sv9, av9, hB, hC⟩
              replace MD := MD.step hB hC
              replace H0 := MD.at (q := W.heap.size + 1) (o := wdO k) (List.mem_cons_of_mem _ (List.mem_cons_of_mem _ (List.mem_cons_self ..)))
              refine hK _ _ (fun _ _ => H0) ?_
              clear hK K hB hC
              try simp only [put_list, List.set]
              refine Drawn.take 4 (some 129) (v := ?_) rfl rfl (by kernel_rfl) (by kernel_rfl) (by kernel_rfl) (by kernel_rfl) (by kernel_rfl) rfl (fun _ _ _ h => h) (Or.inl ⟨rfl, ?_⟩) H0 ?_
              rotate_left
              · intro W hW; have hW := HS.out W hW; go_simp; try with_reducible rfl
              simp only [put_list, List.set]
              refine Drawn.take 5 (some 134) (v := ?_) rfl rfl (by kernel_rfl) (by kernel_rfl) (by kernel_rfl) (by kernel_rfl) (by kernel_rfl) rfl (fun _ _ _ h => h) (Or.inl ⟨rfl, ?_⟩) H0 ?_
              rotate_left
              · intro W hW; have hW := HS.out W hW; go_simp; try with_reducible rfl
              simp only [put_list, List.set]
              refine Drawn.take 6 (some 135) (v := ?_) rfl rfl (by kernel_rfl) (by kernel_rfl) (by kernel_rfl) (by kernel_rfl) (by kernel_rfl) rfl (fun _ _ _ h => h) (Or.inl ⟨rfl, ?_⟩) H0 ?_
              rotate_left
              · intro W hW; have hW := HS.out W hW; go_simp; try with_reducible rfl
              simp only [put_list, List.set]
              refine Drawn.only 7 (by kernel_rfl) rfl rfl (fun K hK => ?_)
              go_simp
              have HLT := Lib.hid (fun x hx => Nat.ne_of_lt (lt_of (MD.box x hx).1))
              replace MD := MD.alloc (.cells #[.int .u64 0, .int .u64 0, .int .u64 0, .int .u64 0] 51 (0, 0))
              replace H0 := MD.at (q := W.heap.size + 1) (o := wdO k) (List.mem_cons_of_mem _ (List.mem_cons_of_mem _ (List.mem_cons_of_mem _ (List.mem_cons_self ..))))
              refine hK _ _ (fun _ _ => H0) ?_
              clear hK K
              obtain ⟨q9, hq9⟩ : ∃ q, q = VB.heap.size := ⟨_, rfl⟩
              rw [← hq9] at MD HLT ⊢
              clear hq9
              generalize World.alloc VB _ = V6 at MD H0 ⊢
              try simp only [put_list, List.set]
              refine Drawn.only 8 (by kernel_rfl) rfl rfl (fun K hK => ?_)
              have hbq := MD.at (q := q9) (List.mem_cons_self ..)
              obtain ⟨⟨g0, g1, g2, g3⟩, e0, e1, e2, e3⟩ := cells4 hbq
              have HBQ := Lib.hid hbq
              clear hbq
              go_simp
              replace MD := MD.put (chg_set4 _ q9 (.int .u64 (l3 v : Nat)) (.int .u64 (l2 v : Nat)) (.int .u64 (l1 v : Nat)) (.int .u64 (l0 v : Nat))) (o' := wdO v) (heap_set4 HBQ.out _ _ _ _) HLT.out
              refine hK _ _ (fun _ _ => MD.at (q := W.heap.size + 1) (o := wdO k) (List.mem_cons_of_mem _ (List.mem_cons_of_mem _ (List.mem_cons_of_mem _ (List.mem_cons_self ..))))) ?_
              clear hK K g0 g1 g2 g3 e0 e1 e2 e3 HBQ H0
              generalize World.setCell _ _ _ = V7 at MD ⊢
              try simp only [put_list, put_none, List.set]
              have H0 := MD.at (q := W.heap.size + 1) (o := wdO k) (List.mem_cons_of_mem _ (List.mem_cons_of_mem _ (List.mem_cons_of_mem _ (List.mem_cons_self ..))))
              refine Drawn.take 9 (some 23) (v := ?_) rfl rfl (by kernel_rfl) (by kernel_rfl) (by kernel_rfl) (by kernel_rfl) (by kernel_rfl) rfl (fun _ _ _ h => h) (Or.inl ⟨rfl, ?_⟩) H0 ?_
              rotate_left
              · intro W hW; have hW := HS.out W hW; go_simp; try with_reducible rfl
              simp only [put_list, List.set]
              refine Drawn.done (by kernel_rfl) ?_ _
              go_wp2_with fail
              go_meet
              case rel => exact ⟨q9, _, _, _, _, by omega, rfl, rfl, MD⟩
            · refine ⟨_, rfl, rfl, fun K hK => ?_⟩
              go_simp
              have HLT := Lib.hid (fun x hx => Nat.ne_of_lt (lt_of (MD.box x hx).1))
              replace MD := MD.alloc (.cells #[.int .u64 0, .int .u64 0, .int .u64 0, .int .u64 0] 51 (0, 0))
              replace H0 := MD.at (q := W.heap.size + 1) (o := wdO k) (List.mem_cons_of_mem _ (List.mem_cons_of_mem _ (List.mem_cons_of_mem _ (List.mem_cons_self ..))))
              refine hK _ _ (fun _ _ => H0) ?_
              clear hK K
              obtain ⟨q9, hq9⟩ : ∃ q, q = VA.heap.size := ⟨_, rfl⟩
              rw [← hq9] at MD HLT ⊢
              clear hq9
              generalize World.alloc VA _ = V6 at MD H0 ⊢
              try simp only [put_list, List.set]
              refine Drawn.only 3 (by kernel_rfl) rfl rfl (fun K hK => ?_)
              go_simp
              refine (SL.out _ _ _ _ _ (by omega) MD.bo).mono ?_
              rintro e VB ⟨rfl, F9, sv9, av9, hB, hC⟩
              replace MD := MD.step hB hC
              replace H0 := MD.at (q := W.heap.size + 1) (o := wdO k) (List.mem_cons_of_mem _ (List.mem_cons_of_mem _ (List.mem_cons_of_mem _ (List.mem_cons_self ..))))
              refine hK _ _ (fun _ _ => H0) ?_
              clear hK K hB hC
              try simp only [put_list, List.set]
              refine Drawn.take 4 (some 129) (v := ?_) rfl rfl (by kernel_rfl) (by kernel_rfl) (by kernel_rfl) (by kernel_rfl) (by kernel_rfl) rfl (fun _ _ _ h => h) (Or.inl ⟨rfl, ?_⟩) H0 ?_
              rotate_left
              · intro W hW; have hW := HS.out W hW; go_simp; try with_reducible rfl
              simp only [put_list, List.set]
              refine Drawn.take 5 (some 134) (v := ?_) rfl rfl (by kernel_rfl) (by kernel_rfl) (by kernel_rfl) (by kernel_rfl) (by kernel_rfl) rfl (fun _ _ _ h => h) (Or.inl ⟨rfl, ?_⟩) H0 ?_
              rotate_left
              · intro W hW; have hW := HS.out W hW; go_simp; try with_reducible rfl
              simp only [put_list, List.set]
              refine Drawn.take 6 (some 135) (v := ?_) rfl rfl (by kernel_rfl) (by kernel_rfl) (by kernel_rfl) (by kernel_rfl) (by kernel_rfl) rfl (fun _ _ _ h => h) (Or.inl ⟨rfl, ?_⟩) H0 ?_
              rotate_left
              · intro W hW; have hW := HS.out W hW; go_simp; try with_reducible rfl
              simp only [put_list, List.set]
              refine Drawn.only 8 (by kernel_rfl) rfl rfl (fun K hK => ?_)
              have hbq := MD.at (q := q9) (List.mem_cons_self ..)
              obtain ⟨⟨g0, g1, g2, g3⟩, e0, e1, e2, e3⟩ := cells4 hbq
              have HBQ := Lib.hid hbq
              clear hbq
              go_simp
              replace MD := MD.put (chg_set4 _ q9 (.int .u64 (l3 v : Nat)) (.int .u64 (l2 v : Nat)) (.int .u64 (l1 v : Nat)) (.int .u64 (l0 v : Nat))) (o' := wdO v) (heap_set4 HBQ.out _ _ _ _) HLT.out
              refine hK _ _ (fun _ _ => MD.at (q := W.heap.size + 1) (o := wdO k) (List.mem_cons_of_mem _ (List.mem_cons_of_mem _ (List.mem_cons_of_mem _ (List.mem_cons_self ..))))) ?_
              clear hK K g0 g1 g2 g3 e0 e1 e2 e3 HBQ H0
              generalize World.setCell _ _ _ = V7 at MD ⊢
              try simp only [put_list, put_none, List.set]
              have H0 := MD.at (q := W.heap.size + 1) (o := wdO k) (List.mem_cons_of_mem _ (List.mem_cons_of_mem _ (List.mem_cons_of_mem _ (List.mem_cons_self ..))))
              refine Drawn.take 9 (some 23) (v := ?_) rfl rfl (by kernel_rfl) (by kernel_rfl) (by kernel_rfl) (by kernel_rfl) (by kernel_rfl) rfl (fun _ _ _ h => h) (Or.inl ⟨rfl, ?_⟩) H0 ?_
              rotate_left
              · intro W hW; have hW := HS.out W hW; go_simp; try with_reducible rfl
              simp only [put_list, List.set]
              refine Drawn.done (by kernel_rfl) ?_ _
              go_wp2_with fail
              go_meet
              case rel => exact ⟨q9, _, _, _, _, by omega, rfl, rfl, MD⟩
          · refine ⟨_, rfl, rfl, fun K hK => ?_⟩
            go_simp
            have HLT := Lib.hid (fun x hx => Nat.ne_of_lt (lt_of (MD.box x hx).1))
            replace MD := MD.alloc (.cells #[.int .u64 0, .int .u64 0, .int .u64 0, .int .u64 0] 51 (0, 0))
            replace H0 := MD.at (q := W.heap.size + 1) (o := wdO k) (List.mem_cons_of_mem _ (List.mem_cons_of_mem _ (List.mem_cons_of_mem _ (List.mem_cons_self ..))))
            refine hK _ _ (fun _ _ => H0) ?_
            clear hK K
            obtain ⟨q9, hq9⟩ : ∃ q, q = V9.heap.size := ⟨_, rfl⟩
            rw [← hq9] at MD HLT ⊢
            clear hq9
            generalize World.alloc V9 _ = V6 at MD H0 ⊢
            try simp only [put_list, List.set]
            refine Drawn.only 1 (by kernel_rfl) rfl rfl (fun K hK => ?_)
            go_simp
            refine (AD.out _).mono ?_
            rintro e VA ⟨rfl, hb⟩
            replace MD := MD.call hb
            replace H0 := (hb.block _ (lt_of H0)).trans H0
            refine hK _ _ (fun _ _ => H0) ?_
            clear hK K hb
            try simp only [put_list, List.set]
            refine Drawn.only 3 (by kernel_rfl) rfl rfl (fun K hK => ?_)
            go_simp
            refine (SL.out _ _ _ _ _ (by omega) MD.bo).mono ?_
            rintro e VB ⟨rfl, F9, sv9, av9, hB, hC⟩
            replace MD := MD.step hB hC
            replace H0 := MD.at (q := W.heap.size + 1) (o := wdO k) (List.mem_cons_of_mem _ (List.mem_cons_of_mem _ (List.mem_cons_of_mem _ (List.mem_cons_self ..))))
            refine hK _ _ (fun _ _ => H0) ?_
            clear hK K hB hC
            try simp only [put_list, List.set]
            refine Drawn.take 4 (some 129) (v := ?_) rfl rfl (by kernel_rfl) (by kernel_rfl) (by kernel_rfl) (by kernel_rfl) (by kernel_rfl) rfl (fun _ _ _ h => h) (Or.inl ⟨rfl, ?_⟩) H0 ?_
            rotate_left
            · intro W hW; have hW := HS.out W hW; go_simp; try with_reducible rfl
            simp only [put_list, List.set]
            refine Drawn.take 5 (some 134) (v := ?_) rfl rfl (by kernel_rfl) (by kernel_rfl) (by kernel_rfl) (by kernel_rfl) (by kernel_rfl) rfl (fun _ _ _ h => h) (Or.inl ⟨rfl, ?_⟩) H0 ?_
            rotate_left
            · intro W hW; have hW := HS.out W hW; go_simp; try with_reducible rfl
            simp only [put_list, List.set]
            refine Drawn.take 6 (some 135) (v := ?_) rfl rfl (by kernel_rfl) (by kernel_rfl) (by kernel_rfl) (by kernel_rfl) (by kernel_rfl) rfl (fun _ _ _ h => h) (Or.inl ⟨rfl, ?_⟩) H0 ?_
            rotate_left
            · intro W hW; have hW := HS.out W hW; go_simp; try with_reducible rfl
            simp only [put_list, List.set]
            refine Drawn.only 8 (by kernel_rfl) rfl rfl (fun K hK => ?_)
            have hbq := MD.at (q := q9) (List.mem_cons_self ..)
            obtain ⟨⟨g0, g1, g2, g3⟩, e0, e1, e2, e3⟩ := cells4 hbq
            have HBQ := Lib.hid hbq
            clear hbq
            go_simp
            replace MD := MD.put (chg_set4 _ q9 (.int .u64 (l3 v : Nat)) (.int .u64 (l2 v : Nat)) (.int .u64 (l1 v : Nat)) (.int .u64 (l0 v : Nat))) (o' := wdO v) (heap_set4 HBQ.out _ _ _ _) HLT.out
            refine hK _ _ (fun _ _ => MD.at (q := W.heap.size + 1) (o := wdO k) (List.mem_cons_of_mem _ (List.mem_cons_of_mem _ (List.mem_cons_of_mem _ (List.mem_cons_self ..))))) ?_
            clear hK K g0 g1 g2 g3 e0 e1 e2 e3 HBQ H0
            generalize World.setCell _ _ _ = V7 at MD ⊢
            try simp only [put_list, put_none, List.set]
            have H0 := MD.at (q := W.heap.size + 1) (o := wdO k) (List.mem_cons_of_mem _ (List.mem_cons_of_mem _ (List.mem_cons_of_mem _ (List.mem_cons_self ..))))
            refine Drawn.take 9 (some 23) (v := ?_) rfl rfl (by kernel_rfl) (by kernel_rfl) (by kernel_rfl) (by kernel_rfl) (by kernel_rfl) rfl (fun _ _ _ h => h) (Or.inl ⟨rfl, ?_⟩) H0 ?_
            rotate_left
            · intro W hW; have hW := HS.out W hW; go_simp; try with_reducible rfl
            simp only [put_list, List.set]
            refine Drawn.done (by kernel_rfl) ?_ _
            go_wp2_with fail
            go_meet
            case rel => exact ⟨q9, _, _, _, _, by omega, rfl, rfl, MD⟩
        case rest =>
          obtain ⟨q22, N9, F9, sv9, av9, hN9, rfl, rfl, M9⟩ := hcut
          have HM9 := Lib.hid (And.intro hN9 M9)
          clear hN9 M9 HM8 SL
          go_wp2_with fail
          refine (AD.out _).mono ?_
          rintro e W10 ⟨rfl, hb⟩
          have M10 := HM9.out.2.call hb
          have HM10 := Lib.hid M10
          have A3' := Lib.hid (A3.out _ _ _ _ _ (by have := HM9.out.1; omega) M10.bo)
          clear M10 hb A3
          go_wp2_with fail
          refine A3'.out.mono ?_
          rintro e W11 ⟨rfl, F11, sv11, av11, hB, hC⟩
          have M11 := (HM10.out.step hB hC).alloc oA
          rw [HOA.out] at M11
          clear HM10 A3' hB hC
          obtain ⟨q24, hq24⟩ : ∃ q, q = W11.heap.size := ⟨_, rfl⟩
          go_upto_region 25 with fail
          rw [← HOA.out] at M11 ⊢
          rw [← hq24] at M11 ⊢
          clear hq24
          generalize World.alloc W11 _ = V11 at M11 ⊢
          have CN := Lib.hid (cnew_c M11.bo.on (by show (1 : Nat) ≤ maxLen; unfold maxLen; omega) HFs.out.1)
          rw [HFs.out.2] at CN
          have HM11 := Lib.hid M11
          clear M11
          go_wp2_with fail
          refine CN.out.mono ?_
          rintro e W12 ⟨rfl, h5, h6⟩
          have MB := Am.again HM11.out.bo.on h5 h6
          clear CN h5 h6
          obtain ⟨b2, hb2⟩ : ∃ b2, b2 = V11.heap.size + 1 := ⟨_, rfl⟩
          obtain ⟨m2, hm2⟩ : ∃ m2, m2 = V11.heap.size := ⟨_, rfl⟩
          rw [← hb2, ← hm2] at MB
          rw [← hb2]
          clear hb2 hm2
          have HMB := Lib.hid MB
          clear MB
          go_wp2_with fail
          refine (AD.out _).mono ?_
          rintro e W13 ⟨rfl, hb⟩
          have M13 := HMB.out.call hb
          have HM13 := Lib.hid M13
          have A4' := Lib.hid (A4.out _ _ _ _ _ _ _ (by have := HM9.out.1; omega) M13.bo)
          clear M13 hb A4 HMB
          go_wp2_with fail
          refine A4'.out.mono ?_
          rintro e W14 ⟨rfl, F14, sv14, av14, hB, hC⟩
          have M14 := (HM13.out.step hB hC).alloc oA
          rw [HOA.out] at M14
          clear HM13 A4' hB hC
          go_upto_region 29 with fail
          rw [← HOA.out] at M14 ⊢
          obtain ⟨q27, hq27⟩ : ∃ q, q = W14.heap.size := ⟨_, rfl⟩
          rw [← hq27] at M14 ⊢
          clear hq27
          generalize World.alloc W14 _ = V14 at M14 ⊢
          have HM14 := Lib.hid M14
          clear M14
          go_cut [29, 30] from 153 (fun p g wx => ∃ q29 N F sv av, p = .pointer (some ⟨q29, 0, none⟩) ∧ g = .int .i64 0 ∧ Am p2 ⟨K2, [], []⟩ nmC d N F b2 m2 sv av V11 F11 [(q29, wdO v), (q27, oA)] wx)
          case first =>
            have MD := HM14.out.call (Below.refl _ _).drew
            have H0 := (HM11.out.back (MD.sub (L' := []) (by simp))).at (q := W.heap.size + 1) (o := wdO k) (List.mem_cons_of_mem _ (List.mem_cons_of_mem _ (List.mem_cons_of_mem _ (List.mem_cons_of_mem _ (List.mem_cons_self ..)))))
            have HS := Lib.hid (fun (V : World) (hV : V.heap[W.heap.size + 1]? = some (wdO k)) => (cells4 hV).1)
            refine Drawn.start (fun V => V.heap[W.heap.size + 1]? = some (wdO k)) (fun _ => false) (by kernel_rfl) ?_
            generalize World.drew _ = V9 at MD H0 ⊢
            refine Drawn.take 0 (some 153) (v := ?_) rfl rfl (by kernel_rfl) (by kernel_rfl) (by kernel_rfl) (by kernel_rfl) (by kernel_rfl) rfl (fun _ _ _ h => h) (Or.inl ⟨rfl, ?_⟩) H0 ?_
            rotate_left
            · intro W hW; have hW := HS.out W hW; go_simp; try with_reducible rfl
            simp only [put_list, List.set]
            refine Drawn.take 2 (some 155) (v := ?_) rfl rfl (by kernel_rfl) (by kernel_rfl) (by kernel_rfl) (by kernel_rfl) (by kernel_rfl) rfl (fun _ _ _ h => h) (Or.inl ⟨rfl, ?_⟩) H0 ?_
            rotate_left
            · intro W hW; have hW := HS.out W hW; go_simp; try with_reducible rfl
            simp only [put_list, List.set]
            refine Drawn.among [1, 7] (by kernel_rfl) (by decide) ?_
            intro i hi
            simp only [List.mem_cons, List.not_mem_nil, or_false] at hi
            rcases hi with rfl | rfl
            · refine ⟨_, rfl, rfl, fun K hK => ?_⟩
              go_simp
              refine (AD.out _).mono ?_
              rintro e VA ⟨rfl, hb⟩
              replace MD := MD.call hb
              replace H0 := (hb.block _ (lt_of H0)).trans H0
              refine hK _ _ (fun _ _ => H0) ?_
              clear hK K hb
              try simp only [put_list, List.set]
              refine Drawn.among [3, 7] (by kernel_rfl) (by decide) ?_
              intro i hi
              simp only [List.mem_cons, List.not_mem_nil, or_false] at hi
              rcases hi with rfl | rfl
              · refine ⟨_, rfl, rfl, fun K hK => ?_⟩
                go_simp
                refine (S4.out _ _ _ _ _ _ _ (by have := HM9.out.1; omega) MD.bo).mono ?_
                rintro e VB ⟨rfl, F9, sv9, av9, hB, hC⟩
                replace MD := MD.step hB hC
                replace H0 := (HM11.out.back (MD.sub (L' := []) (by simp))).at (q := W.heap.size + 1) (o := wdO k) (List.mem_cons_of_mem _ (List.mem_cons_of_mem _ (List.mem_cons_of_mem _ (List.mem_cons_of_mem _ (List.mem_cons_self ..)))))
                refine hK _ _ (fun _ _ => H0) ?_
                clear hK K hB hC
                try simp only [put_list, List.set]
                refine Drawn.take 4 (some 152) (v := ?_) rfl rfl (by kernel_rfl) (by kernel_rfl) (by kernel_rfl) (by kernel_rfl) (by kernel_rfl) rfl (fun _ _ _ h => h) (Or.inl ⟨rfl, ?_⟩) H0 ?_
                rotate_left
                · intro W hW; have hW := HS.out W hW; go_simp; try with_reducible rfl
                simp only [put_list, List.set]
                refine Drawn.take 5 (some 157) (v := ?_) rfl rfl (by kernel_rfl) (by kernel_rfl) (by kernel_rfl) (by kernel_rfl) (by kernel_rfl) rfl (fun _ _ _ h => h) (Or.inl ⟨rfl, ?_⟩) H0 ?_
                rotate_left
                · intro W hW; have hW := HS.out W hW; go_simp; try with_reducible rfl
                simp only [put_list, List.set]
                refine Drawn.take 6 (some 158) (v := ?_) rfl rfl (by kernel_rfl) (by kernel_rfl) (by kernel_rfl) (by kernel_rfl) (by kernel_rfl) rfl (fun _ _ _ h => h) (Or.inl ⟨rfl, ?_⟩) H0 ?_
                rotate_left
                · intro W hW; have hW := HS.out W hW; go_simp; try with_reducible rfl
                simp only [put_list, List.set]
                refine Drawn.only 7 (by kernel_rfl) rfl rfl (fun K hK => ?_)
                go_simp
                have HLT := Lib.hid (fun x hx => Nat.ne_of_lt (lt_of (MD.box x hx).1))
                replace MD := MD.alloc (.cells #[.int .u64 0, .int .u64 0, .int .u64 0, .int .u64 0] 51 (0, 0))
                replace H0 := (HM11.out.back (MD.sub (L' := []) (by simp))).at (q := W.heap.size + 1) (o := wdO k) (List.mem_cons_of_mem _ (List.mem_cons_of_mem _ (List.mem_cons_of_mem _ (List.mem_cons_of_mem _ (List.mem_cons_self ..)))))
                refine hK _ _ (fun _ _ => H0) ?_
                clear hK K
                obtain ⟨q9, hq9⟩ : ∃ q, q = VB.heap.size := ⟨_, rfl⟩
                rw [← hq9] at MD HLT ⊢
                clear hq9
                generalize World.alloc VB _ = V6 at MD H0 ⊢
                try simp only [put_list, List.set]
                refine Drawn.only 8 (by kernel_rfl) rfl rfl (fun K hK => ?_)
                have hbq := MD.at (q := q9) (List.mem_cons_self ..)
                obtain ⟨⟨g0, g1, g2, g3⟩, e0, e1, e2, e3⟩ := cells4 hbq
                have HBQ := Lib.hid hbq
                clear hbq
                go_simp
                replace MD := MD.put (chg_set4 _ q9 (.int .u64 (l3 v : Nat)) (.int .u64 (l2 v : Nat)) (.int .u64 (l1 v : Nat)) (.int .u64 (l0 v : Nat))) (o' := wdO v) (heap_set4 HBQ.out _ _ _ _) HLT.out
                refine hK _ _ (fun _ _ => (HM11.out.back (MD.sub (L' := []) (by simp))).at (q := W.heap.size + 1) (o := wdO k) (List.mem_cons_of_mem _ (List.mem_cons_of_mem _ (List.mem_cons_of_mem _ (List.mem_cons_of_mem _ (List.mem_cons_self ..)))))) ?_
                clear hK K g0 g1 g2 g3 e0 e1 e2 e3 HBQ H0
                generalize World.setCell _ _ _ = V7 at MD ⊢
                try simp only [put_list, put_none, List.set]
                have H0 := (HM11.out.back (MD.sub (L' := []) (by simp))).at (q := W.heap.size + 1) (o := wdO k) (List.mem_cons_of_mem _ (List.mem_cons_of_mem _ (List.mem_cons_of_mem _ (List.mem_cons_of_mem _ (List.mem_cons_self ..)))))
                refine Drawn.take 9 (some 30) (v := ?_) rfl rfl (by kernel_rfl) (by kernel_rfl) (by kernel_rfl) (by kernel_rfl) (by kernel_rfl) rfl (fun _ _ _ h => h) (Or.inl ⟨rfl, ?_⟩) H0 ?_
                rotate_left
                · intro W hW; have hW := HS.out W hW; go_simp; try with_reducible rfl
                simp only [put_list, List.set]
                refine Drawn.done (by kernel_rfl) ?_ _
                go_wp2_with fail
                go_meet
                case rel => exact ⟨q9, _, _, _, _, rfl, rfl, MD⟩
              · refine ⟨_, rfl, rfl, fun K hK => ?_⟩
                go_simp
                have HLT := Lib.hid (fun x hx => Nat.ne_of_lt (lt_of (MD.box x hx).1))
                replace MD := MD.alloc (.cells #[.int .u64 0, .int .u64 0, .int .u64 0, .int .u64 0] 51 (0, 0))
                replace H0 := (HM11.out.back (MD.sub (L' := []) (by simp))).at (q := W.heap.size + 1) (o := wdO k) (List.mem_cons_of_mem _ (List.mem_cons_of_mem _ (List.mem_cons_of_mem _ (List.mem_cons_of_mem _ (List.mem_cons_self ..)))))
                refine hK _ _ (fun _ _ => H0) ?_
                clear hK K
                obtain ⟨q9, hq9⟩ : ∃ q, q = VA.heap.size := ⟨_, rfl⟩
                rw [← hq9] at MD HLT ⊢
                clear hq9
                generalize World.alloc VA _ = V6 at MD H0 ⊢
                try simp only [put_list, List.set]
                refine Drawn.only 3 (by kernel_rfl) rfl rfl (fun K hK => ?_)
                go_simp
                refine (S4.out _ _ _ _ _ _ _ (by have := HM9.out.1; omega) MD.bo).mono ?_
                rintro e VB ⟨rfl, F9, sv9, av9, hB, hC⟩
                replace MD := MD.step hB hC
                replace H0 := (HM11.out.back (MD.sub (L' := []) (by simp))).at (q := W.heap.size + 1) (o := wdO k) (List.mem_cons_of_mem _ (List.mem_cons_of_mem _ (List.mem_cons_of_mem _ (List.mem_cons_of_mem _ (List.mem_cons_self ..)))))
                refine hK _ _ (fun _ _ => H0) ?_
                clear hK K hB hC
                try simp only [put_list, List.set]
                refine Drawn.take 4 (some 152) (v := ?_) rfl rfl (by kernel_rfl) (by kernel_rfl) (by kernel_rfl) (by kernel_rfl) (by kernel_rfl) rfl (fun _ _ _ h => h) (Or.inl ⟨rfl, ?_⟩) H0 ?_
                rotate_left
                · intro W hW; have hW := HS.out W hW; go_simp; try with_reducible rfl
                simp only [put_list, List.set]
                refine Drawn.take 5 (some 157) (v := ?_) rfl rfl (by kernel_rfl) (by kernel_rfl) (by kernel_rfl) (by kernel_rfl) (by kernel_rfl) rfl (fun _ _ _ h => h) (Or.inl ⟨rfl, ?_⟩) H0 ?_
                rotate_left
                · intro W hW; have hW := HS.out W hW; go_simp; try with_reducible rfl
                simp only [put_list, List.set]
                refine Drawn.take 6 (some 158) (v := ?_) rfl rfl (by kernel_rfl) (by kernel_rfl) (by kernel_rfl) (by kernel_rfl) (by kernel_rfl) rfl (fun _ _ _ h => h) (Or.inl ⟨rfl, ?_⟩) H0 ?_
                rotate_left
                · intro W hW; have hW := HS.out W hW; go_simp; try with_reducible rfl
                simp only [put_list, List.set]
                refine Drawn.only 8 (by kernel_rfl) rfl rfl (fun K hK => ?_)
                have hbq := MD.at (q := q9) (List.mem_cons_self ..)
                obtain ⟨⟨g0, g1, g2, g3⟩, e0, e1, e2, e3⟩ := cells4 hbq
                have HBQ := Lib.hid hbq
                clear hbq
                go_simp
                replace MD := MD.put (chg_set4 _ q9 (.int .u64 (l3 v : Nat)) (.int .u64 (l2 v : Nat)) (.int .u64 (l1 v : Nat)) (.int .u64 (l0 v : Nat))) (o' := wdO v) (heap_set4 HBQ.out _ _ _ _) HLT.out
                refine hK _ _ (fun _ _ => (HM11.out.back (MD.sub (L' := []) (by simp))).at (q := W.heap.size + 1) (o := wdO k) (List.mem_cons_of_mem _ (List.mem_cons_of_mem _ (List.mem_cons_of_mem _ (List.mem_cons_of_mem _ (List.mem_cons_self ..)))))) ?_
                clear hK K g0 g1 g2 g3 e0 e1 e2 e3 HBQ H0
                generalize World.setCell _ _ _ = V7 at MD ⊢
                try simp only [put_list, put_none, List.set]
                have H0 := (HM11.out.back (MD.sub (L' := []) (by simp))).at (q := W.heap.size + 1) (o := wdO k) (List.mem_cons_of_mem _ (List.mem_cons_of_mem _ (List.mem_cons_of_mem _ (List.mem_cons_of_mem _ (List.mem_cons_self ..)))))
                refine Drawn.take 9 (some 30) (v := ?_) rfl rfl (by kernel_rfl) (by kernel_rfl) (by kernel_rfl) (by kernel_rfl) (by kernel_rfl) rfl (fun _ _ _ h => h) (Or.inl ⟨rfl, ?_⟩) H0 ?_
                rotate_left
                · intro W hW; have hW := HS.out W hW; go_simp; try with_reducible rfl
                simp only [put_list, List.set]
                refine Drawn.done (by kernel_rfl) ?_ _
                go_wp2_with fail
                go_meet
                case rel => exact ⟨q9, _, _, _, _, rfl, rfl, MD⟩
            · refine ⟨_, rfl, rfl, fun K hK => ?_⟩
              go_simp
              have HLT := Lib.hid (fun x hx => Nat.ne_of_lt (lt_of (MD.box x hx).1))
              replace MD := MD.alloc (.cells #[.int .u64 0, .int .u64 0, .int .u64 0, .int .u64 0] 51 (0, 0))
              replace H0 := (HM11.out.back (MD.sub (L' := []) (by simp))).at (q := W.heap.size + 1) (o := wdO k) (List.mem_cons_of_mem _ (List.mem_cons_of_mem _ (List.mem_cons_of_mem _ (List.mem_cons_of_mem _ (List.mem_cons_self ..)))))
              refine hK _ _ (fun _ _ => H0) ?_
              clear hK K
              obtain ⟨q9, hq9⟩ : ∃ q, q = V9.heap.size := ⟨_, rfl⟩
              rw [← hq9] at MD HLT ⊢
              clear hq9
              generalize World.alloc V9 _ = V6 at MD H0 ⊢
              try simp only [put_list, List.set]
              refine Drawn.only 1 (by kernel_rfl) rfl rfl (fun K hK => ?_)
              go_simp
              refine (AD.out _).mono ?_
              rintro e VA ⟨rfl, hb⟩
              replace MD := MD.call hb
              replace H0 := (hb.block _ (lt_of H0)).trans H0
              refine hK _ _ (fun _ _ => H0) ?_
              clear hK K hb
              try simp only [put_list, List.set]
              refine Drawn.only 3 (by kernel_rfl) rfl rfl (fun K hK => ?_)
              go_simp
              refine (S4.out _ _ _ _ _ _ _ (by have := HM9.out.1; omega) MD.bo).mono ?_
              rintro e VB ⟨rfl, F9, sv9, av9, hB, hC⟩
              replace MD := MD.step hB hC
              replace H0 := (HM11.out.back (MD.sub (L' := []) (by simp))).at (q := W.heap.size + 1) (o := wdO k) (List.mem_cons_of_mem _ (List.mem_cons_of_mem _ (List.mem_cons_of_mem _ (List.mem_cons_of_mem _ (List.mem_cons_self ..)))))
              refine hK _ _ (fun _ _ => H0) ?_
              clear hK K hB hC
              try simp only [put_list, List.set]
              refine Drawn.take 4 (some 152) (v := ?_) rfl rfl (by kernel_rfl) (by kernel_rfl) (by kernel_rfl) (by kernel_rfl) (by kernel_rfl) rfl (fun _ _ _ h => h) (Or.inl ⟨rfl, ?_⟩) H0 ?_
              rotate_left
              · intro W hW; have hW := HS.out W hW; go_simp; try with_reducible rfl
              simp only [put_list, List.set]
              refine Drawn.take 5 (some 157) (v := ?_) rfl rfl (by kernel_rfl) (by kernel_rfl) (by kernel_rfl) (by kernel_rfl) (by kernel_rfl) rfl (fun _ _ _ h => h) (Or.inl ⟨rfl, ?_⟩) H0 ?_
              rotate_left
              · intro W hW; have hW := HS.out W hW; go_simp; try with_reducible rfl
              simp only [put_list, List.set]
              refine Drawn.take 6 (some 158) (v := ?_) rfl rfl (by kernel_rfl) (by kernel_rfl) (by kernel_rfl) (by kernel_rfl) (by kernel_rfl) rfl (fun _ _ _ h => h) (Or.inl ⟨rfl, ?_⟩) H0 ?_
              rotate_left
              · intro W hW; have hW := HS.out W hW; go_simp; try with_reducible rfl
              simp only [put_list, List.set]
              refine Drawn.only 8 (by kernel_rfl) rfl rfl (fun K hK => ?_)
              have hbq := MD.at (q := q9) (List.mem_cons_self ..)
              obtain ⟨⟨g0, g1, g2, g3⟩, e0, e1, e2, e3⟩ := cells4 hbq
              have HBQ := Lib.hid hbq
              clear hbq
              go_simp
              replace MD := MD.put (chg_set4 _ q9 (.int .u64 (l3 v : Nat)) (.int .u64 (l2 v : Nat)) (.int .u64 (l1 v : Nat)) (.int .u64 (l0 v : Nat))) (o' := wdO v) (heap_set4 HBQ.out _ _ _ _) HLT.out
              refine hK _ _ (fun _ _ => (HM11.out.back (MD.sub (L' := []) (by simp))).at (q := W.heap.size + 1) (o := wdO k) (List.mem_cons_of_mem _ (List.mem_cons_of_mem _ (List.mem_cons_of_mem _ (List.mem_cons_of_mem _ (List.mem_cons_self ..)))))) ?_
              clear hK K g0 g1 g2 g3 e0 e1 e2 e3 HBQ H0
              generalize World.setCell _ _ _ = V7 at MD ⊢
              try simp only [put_list, put_none, List.set]
              have H0 := (HM11.out.back (MD.sub (L' := []) (by simp))).at (q := W.heap.size + 1) (o := wdO k) (List.mem_cons_of_mem _ (List.mem_cons_of_mem _ (List.mem_cons_of_mem _ (List.mem_cons_of_mem _ (List.mem_cons_self ..)))))
              refine Drawn.take 9 (some 30) (v := ?_) rfl rfl (by kernel_rfl) (by kernel_rfl) (by kernel_rfl) (by kernel_rfl) (by kernel_rfl) rfl (fun _ _ _ h => h) (Or.inl ⟨rfl, ?_⟩) H0 ?_
              rotate_left
              · intro W hW; have hW := HS.out W hW; go_simp; try with_reducible rfl
              simp only [put_list, List.set]
              refine Drawn.done (by kernel_rfl) ?_ _
              go_wp2_with fail
              go_meet
              case rel => exact ⟨q9, _, _, _, _, rfl, rfl, MD⟩
          case rest =>
            obtain ⟨q29, N15, F15, sv15, av15, rfl, rfl, M15⟩ := hcut
            have MF := HM11.out.back (M15.sub (L' := []) (by simp))
            have b20 := MF.at (q := q20) (o := oA) (List.mem_cons_of_mem _ (List.mem_cons_of_mem _ (List.mem_cons_self ..)))
            have b4 := MF.at (q := W.heap.size) (o := oA) (List.mem_cons_of_mem _ (List.mem_cons_of_mem _ (List.mem_cons_of_mem _ (List.mem_cons_self ..))))
            have b24 := MF.at (q := q24) (o := oA) (List.mem_cons_self ..)
            have b22 := MF.at (q := q22) (o := wdO v) (List.mem_cons_of_mem _ (List.mem_cons_self ..))
            have b6 := MF.at (q := W.heap.size + 1 + 1) (o := wdO v) (List.mem_cons_of_mem _ (List.mem_cons_of_mem _ (List.mem_cons_of_mem _ (List.mem_cons_of_mem _ (List.mem_cons_of_mem _ (List.mem_cons_self ..))))))
            have b27 := M15.at (q := q27) (o := oA) (List.mem_cons_of_mem _ (List.mem_cons_self ..))
            have b29 := M15.at (q := q29) (o := wdO v) (List.mem_cons_self ..)
            rw [HOA.out] at b20 b4 b24 b27
            obtain ⟨⟨x0, x1, x2, x3, x4, x5⟩, _⟩ := cells6 b20
            obtain ⟨⟨y0, y1, y2, y3, y4, y5⟩, _⟩ := cells6 b4
            obtain ⟨⟨z0, z1, z2, z3, z4, z5⟩, _⟩ := cells6 b24
            obtain ⟨⟨u0, u1, u2, u3, u4, u5⟩, _⟩ := cells6 b27
            obtain ⟨⟨r0, r1, r2, r3⟩, _⟩ := cells4 b22
            obtain ⟨⟨s0, s1', s2, s3⟩, _⟩ := cells4 b6
            obtain ⟨⟨t0, t1, t2, t3⟩, _⟩ := cells4 b29
            have AK := Lib.hid (asked_c MF.bo.at' (by show q2.length ≤ _; have := hr2.out; rw [HQ.out.1]; omega))
            have HMF := Lib.hid MF
            have HM15 := Lib.hid M15
            clear b20 b4 b24 b22 b6 b27 b29 MF M15
            go_wp2_with fail
            refine AK.out.mono ?_
            rintro e W16 ⟨v8, rfl, ho8, hb⟩
            have M16 := HMF.out.call hb
            have N16 := HM15.out.call hb
            obtain ⟨a8, c8, hf8⟩ := ho8.form
            rw [show (Cl.asked ⟨K2, [], q2⟩).length = n2 from HQ.out.1] at hf8
            subst hf8
            have AK2 := Lib.hid (asked_c N16.bo.at' (by show 0 ≤ 1000000000; omega))
            have HM16 := Lib.hid M16
            have HN16 := Lib.hid N16
            clear AK HMF HM15 ho8 hb M16 N16 x0 x1 x2 x3 x4 x5 y0 y1 y2 y3 y4 y5 z0 z1 z2 z3 z4 z5 u0 u1 u2 u3 u4 u5 r0 r1 r2 r3 s0 s1' s2 s3 t0 t1 t2 t3
            go_wp2_with fail
            refine AK2.out.mono ?_
            rintro e W17 ⟨v9, rfl, ho9, hb⟩
            have M17 := HM16.out.call hb
            have N17 := HN16.out.call hb
            obtain ⟨a9, c9, hf9⟩ := ho9.form
            rw [show (Cl.asked ⟨K2, [], []⟩).length = 0 from rfl] at hf9
            subst hf9
            have KN := Lib.hid (known_c N17.bo.at')
            rw [show (Cl.known ⟨K2, [], []⟩).length = 2 from HQ.out.2] at KN
            have HM17 := Lib.hid M17
            clear AK2 HM16 HN16 ho9 hb M17 N17
            go_wp2_with fail
            refine KN.out.mono ?_
            rintro e W18 ⟨rfl, rfl⟩
            clear KN
            go_wp2_with fail
            go_ret
            exact ⟨rfl, HM17.out.bel⟩
theorem onceA_c (nonce bal k v wrong : Nat) (cs : ByteArray) (h0 : wrong < 256) (h1 : nonce < M64) (h2 : bal < W256) (h3 : k < W256) (h4 : v < W256) (W : World) :
    Calls Tryz.prog 4 #[.agg #[.int .u64 nonce, .int .u64 (l3 bal : Nat), .int .u64 (l2 bal : Nat), .int .u64 (l1 bal : Nat), .int .u64 (l0 bal : Nat), .string cs], .agg #[.int .u64 (l3 k : Nat), .int .u64 (l2 k : Nat), .int .u64 (l1 k : Nat), .int .u64 (l0 k : Nat)], .agg #[.int .u64 (l3 v : Nat), .int .u64 (l2 v : Nat), .int .u64 (l1 v : Nat), .int .u64 (l0 v : Nat)], .int .u8 wrong] W fun e W' => e = .returned (.bool true) ∧ Below W.heap.size W W' := by
  have h := once_c nonce bal k v wrong cs.data.toList h0 h1 h2 h3 h4 W
  rwa [str_of'] at h
end Go.Proofs.YtceagpnonkmfdaaGreat.Dz
end
