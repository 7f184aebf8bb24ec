/- WarmBack (written by genJy.py). -/
import Derived.Test.YtginibphicmmmaaJx
import Derived.Test.YtginibphicmmmaaJm
namespace Go.Proofs.Ytginibphicmmmaa
open Go.RowKit Go.Maps Go.Shelf Mp

theorem one_log {V : World} {q : Nat} {l : LogP} {ta : Option Addr} {nt tc : Nat} (h : V.heap[q]? = some (.cells #[.string (str l.addr), .slice ta nt tc, .string (str l.data)] 33 (0, 0))) (hw : WordsAt V (.slice ta nt tc) l.tops) : LogsAt V (.slice (some ⟨q, 0, none⟩) 1 1) [l] := by
  refine ⟨_, 1, rfl, fun i z hz => ?_⟩
  cases i with
  | zero =>
    simp at hz
    subst hz
    exact ⟨q, 0, _, rfl, lt_of h, cell_of h 0, cell_of h 1, cell_of h 2, hw⟩
  | succ i => simp at hz
set_option maxRecDepth 100000 in
set_option maxHeartbeats 16000000 in
theorem wback_c {a : Nm} {k : Wq} {n m : Int} {l g : LogP} {tl tg : Value} {W : World} (ha : a.length ≤ 140737488351232) (hk : k.Ok) (hn : -9223372036854775808 ≤ n ∧ n ≤ 9223372036854775807) (hwl : WordsAt W tl l.tops) (hwg : WordsAt W tg g.tops)
    (hl : l.addr.length ≤ big ∧ l.data.length ≤ big ∧ l.tops.length * 32 ≤ 140737488355328) (hg : g.addr.length ≤ big ∧ g.data.length ≤ big ∧ g.tops.length * 32 ≤ 140737488355328) :
    Calls Try.prog 4 #[.string (str a), .agg (wqC k), .int .i64 n, .int .i64 m, logV l tl, logV g tg] W fun e W' => e = .returned (.bool true) ∧ Below W.heap.size W W' := by
  obtain ⟨nt, hnt⟩ : ∃ nt, nt = l.tops.length := ⟨_, rfl⟩
  obtain ⟨nu, hnu⟩ : ∃ nu, nu = g.tops.length := ⟨_, rfl⟩
  have hT1 : ∃ q c, tl = .slice q nt c := by obtain ⟨q, c, e, _⟩ := hwl; exact ⟨q, c, by rw [hnt]; exact e⟩
  have hT2 : ∃ q c, tg = .slice q nu c := by obtain ⟨q, c, e, _⟩ := hwg; exact ⟨q, c, by rw [hnu]; exact e⟩
  obtain ⟨ta, tc, rfl⟩ := hT1
  obtain ⟨ua, uc, rfl⟩ := hT2
  have M := (((Bx.start W).alloc (.cells (wqC k) 46 (0, 0))).alloc (.cells #[.string (str l.addr), .slice ta nt tc, .string (str l.data)] 33 (0, 0))).alloc (.cells #[.string (str g.addr), .slice ua nu uc, .string (str g.data)] 33 (0, 0))
  rw [alloc_size, alloc_size] at M
  have HB := Lib.hid M
  have HA := Lib.hid (And.intro ha (And.intro hk (And.intro hwl (And.intro hwg (And.intro hl.1 (And.intro hl.2.1 (And.intro hl.2.2 (And.intro hg.1 (And.intro hg.2.1 (And.intro hg.2.2 hn))))))))))
  have hE : (str a).toList.isEmpty = decide (a = []) := by rw [ByteArray.toList_eq, str_list]; cases a <;> rfl
  have hX : (⟨#[102, 105, 114, 115, 116]⟩ : ByteArray) ++ str a = str (Fst ++ a) := str_append Fst a
  have hz := str_size a
  have hzl : 5 + (str a).size ≤ 281474976710656 := by omega
  have hzl2 : (str a).size + 5 ≤ 281474976710656 := by omega
  have hFa : (Fst ++ a).length ≤ big := by simp [Fst]; unfold big at *; omega
  have hF : Fst.length ≤ big := by decide
  have HF := Lib.hid (And.intro hFa hF)
  clear M ha hk hz hwl hwg hl hg hn hnt hnu hFa hF
  unfold wqC logV at *
  go_enter Try.func4, Try.ntmps4
  go_wp2_with fail
  refine (exam_c _).mono ?_
  rintro e V8 ⟨rfl, h9⟩
  have HB2 := Lib.hid (HB.out.call h9)
  clear HB h9
  have CN := Lib.hid (St.newB HB2.out)
  unfold ptr at CN
  go_wp2_with fail
  refine CN.out.mono ?_
  rintro e V0 ⟨b9, rfl, h9⟩
  have H0 := Lib.hid h9
  clear CN h9
  clear HB2
  have C := Lib.hid (St.addr (a := Fst) H0.out (by omega) HF.out.2)
  rw [show str Fst = ⟨#[102, 105, 114, 115, 116]⟩ from rfl, show (hasBy plOf [] (⟨Fst, true, Wq.zero⟩ : Pl)).isSome = false from by rw [hasBy_nil]; rfl, show noteBy plOf (.addr Fst) (⟨Fst, true, Wq.zero⟩ : Pl) [] = [.addr Fst] from by unfold noteBy; rw [hasBy_nil]; rfl] at C
  unfold ptr at C
  go_wp2_with fail
  refine C.out.mono ?_
  rintro e V1 ⟨rfl, h9⟩
  have H1 := Lib.hid (show St ([.addr Fst]) b9 1 ([(W.heap.size + 1 + 1, Obj.cells #[.string (str g.addr), .slice ua nu uc, .string (str g.data)] 33 (0, 0)), (W.heap.size + 1, Obj.cells #[.string (str l.addr), .slice ta nt tc, .string (str l.data)] 33 (0, 0)), (W.heap.size, Obj.cells #[.int .u64 (k.a : Nat), .int .u64 (k.b : Nat), .int .u64 (k.c : Nat), .int .u64 (k.d : Nat)] 46 (0, 0))]) W V1 from h9)
  clear C H0 h9
  have C := Lib.hid (St.refund H1.out (by omega) n)
  unfold ptr at C
  go_wp2_with fail
  refine C.out.mono ?_
  rintro e V2 ⟨rfl, h9⟩
  have H2 := Lib.hid (show St ([.refund n, .addr Fst]) b9 2 ([(W.heap.size + 1 + 1, Obj.cells #[.string (str g.addr), .slice ua nu uc, .string (str g.data)] 33 (0, 0)), (W.heap.size + 1, Obj.cells #[.string (str l.addr), .slice ta nt tc, .string (str l.data)] 33 (0, 0)), (W.heap.size, Obj.cells #[.int .u64 (k.a : Nat), .int .u64 (k.b : Nat), .int .u64 (k.c : Nat), .int .u64 (k.d : Nat)] 46 (0, 0))]) W V2 from h9)
  clear C H1 h9
  have zl := H2.out.at (q := W.heap.size + 1) (List.mem_cons_of_mem _ (List.mem_cons_self ..))
  have l0 := cell_of zl 0
  have l1 := cell_of zl 1
  have l2 := cell_of zl 2
  simp only [List.getElem?_toArray, List.getElem?_cons_zero, List.getElem?_cons_succ] at l0 l1 l2
  clear zl
  have C := Lib.hid (St.log (l := l) H2.out (by omega) (HA.out.2.2.1.below H2.out.below) HA.out.2.2.2.2.1 HA.out.2.2.2.2.2.1 HA.out.2.2.2.2.2.2.1)
  unfold logV at C
  unfold ptr at C
  go_wp2_with fail
  refine C.out.mono ?_
  rintro e V3 ⟨rfl, h9⟩
  have H3 := Lib.hid (show St (La l n) b9 3 ([(W.heap.size + 1 + 1, Obj.cells #[.string (str g.addr), .slice ua nu uc, .string (str g.data)] 33 (0, 0)), (W.heap.size + 1, Obj.cells #[.string (str l.addr), .slice ta nt tc, .string (str l.data)] 33 (0, 0)), (W.heap.size, Obj.cells #[.int .u64 (k.a : Nat), .int .u64 (k.b : Nat), .int .u64 (k.c : Nat), .int .u64 (k.d : Nat)] 46 (0, 0))]) W V3 from h9)
  clear C H2 h9
  clear l0 l1 l2
  have C := Lib.hid (St.mark H3.out)
  rw [show (((La l n).length : Nat) : Int) = 3 from rfl] at C
  unfold ptr at C
  go_wp2_with fail
  refine C.out.mono ?_
  rintro e V4 ⟨rfl, rfl⟩
  clear C
  have C := Lib.hid (St.addr (a := Fst ++ a) H3.out (by omega) HF.out.1)
  rw [← hX, l1_note, la_addr] at C
  rw [show (if a = [] then some () else none : Option Unit).isSome = decide (a = []) from by by_cases h : a = [] <;> simp [h]] at C
  unfold ptr at C
  go_wp2_with fail
  refine C.out.mono ?_
  rintro e V5 ⟨rfl, h9⟩
  have H4 := Lib.hid (show St (L1 l n a) b9 4 ([(W.heap.size + 1 + 1, Obj.cells #[.string (str g.addr), .slice ua nu uc, .string (str g.data)] 33 (0, 0)), (W.heap.size + 1, Obj.cells #[.string (str l.addr), .slice ta nt tc, .string (str l.data)] 33 (0, 0)), (W.heap.size, Obj.cells #[.int .u64 (k.a : Nat), .int .u64 (k.b : Nat), .int .u64 (k.c : Nat), .int .u64 (k.d : Nat)] 46 (0, 0))]) W V5 from h9)
  clear C H3 h9
  generalize hr : decide (a = []) = r at *
  have HR := Lib.hid hr
  clear hr
  have zk := H4.out.at (q := W.heap.size) (List.mem_cons_of_mem _ (List.mem_cons_of_mem _ (List.mem_cons_self ..)))
  have k0 := cell_of zk 0
  have k1 := cell_of zk 1
  have k2 := cell_of zk 2
  have k3 := cell_of zk 3
  simp only [List.getElem?_toArray, List.getElem?_cons_zero, List.getElem?_cons_succ] at k0 k1 k2 k3
  clear zk
  have C := Lib.hid (St.slot (a := a) (k := k) H4.out (by omega) (Nat.le_trans HA.out.1 (by decide)) HA.out.2.1)
  rw [l1_slot, show noteBy plOf (.slot a k) ⟨a, false, k⟩ (L1 l n a) = .slot a k :: L1 l n a from by unfold noteBy; rw [l1_slot]; rfl, show wqC k = #[.int .u64 (k.a : Nat), .int .u64 (k.b : Nat), .int .u64 (k.c : Nat), .int .u64 (k.d : Nat)] from rfl] at C
  unfold ptr at C
  go_wp2_with fail
  refine C.out.mono ?_
  rintro e V6 ⟨rfl, h9⟩
  have H5 := Lib.hid (show St (.slot a k :: L1 l n a) b9 5 ([(W.heap.size + 1 + 1, Obj.cells #[.string (str g.addr), .slice ua nu uc, .string (str g.data)] 33 (0, 0)), (W.heap.size + 1, Obj.cells #[.string (str l.addr), .slice ta nt tc, .string (str l.data)] 33 (0, 0)), (W.heap.size, Obj.cells #[.int .u64 (k.a : Nat), .int .u64 (k.b : Nat), .int .u64 (k.c : Nat), .int .u64 (k.d : Nat)] 46 (0, 0))]) W V6 from h9)
  clear C H4 h9
  clear k0 k1 k2 k3
  have C := Lib.hid (St.refund H5.out (by omega) m)
  unfold ptr at C
  go_wp2_with fail
  refine C.out.mono ?_
  rintro e V7 ⟨rfl, h9⟩
  have H6 := Lib.hid (show St (.refund m :: .slot a k :: L1 l n a) b9 6 ([(W.heap.size + 1 + 1, Obj.cells #[.string (str g.addr), .slice ua nu uc, .string (str g.data)] 33 (0, 0)), (W.heap.size + 1, Obj.cells #[.string (str l.addr), .slice ta nt tc, .string (str l.data)] 33 (0, 0)), (W.heap.size, Obj.cells #[.int .u64 (k.a : Nat), .int .u64 (k.b : Nat), .int .u64 (k.c : Nat), .int .u64 (k.d : Nat)] 46 (0, 0))]) W V7 from h9)
  clear C H5 h9
  have zg := H6.out.at (q := W.heap.size + 1 + 1) (List.mem_cons_self ..)
  have g0 := cell_of zg 0
  have g1 := cell_of zg 1
  have g2 := cell_of zg 2
  simp only [List.getElem?_toArray, List.getElem?_cons_zero, List.getElem?_cons_succ] at g0 g1 g2
  clear zg
  have C := Lib.hid (St.log (l := g) H6.out (by omega) (HA.out.2.2.2.1.below H6.out.below) HA.out.2.2.2.2.2.2.2.1 HA.out.2.2.2.2.2.2.2.2.1 HA.out.2.2.2.2.2.2.2.2.2.1)
  unfold logV at C
  unfold ptr at C
  go_wp2_with fail
  refine C.out.mono ?_
  rintro e V8 ⟨rfl, h9⟩
  have H7 := Lib.hid (show St (.log g :: .refund m :: .slot a k :: L1 l n a) b9 7 ([(W.heap.size + 1 + 1, Obj.cells #[.string (str g.addr), .slice ua nu uc, .string (str g.data)] 33 (0, 0)), (W.heap.size + 1, Obj.cells #[.string (str l.addr), .slice ta nt tc, .string (str l.data)] 33 (0, 0)), (W.heap.size, Obj.cells #[.int .u64 (k.a : Nat), .int .u64 (k.b : Nat), .int .u64 (k.c : Nat), .int .u64 (k.d : Nat)] 46 (0, 0))]) W V8 from h9)
  clear C H6 h9
  clear g0 g1 g2
  have C := Lib.hid (St.gone (a := a) H7.out (by omega) (Nat.le_trans HA.out.1 (by decide)))
  rw [l5_note] at C
  unfold ptr at C
  go_wp2_with fail
  refine C.out.mono ?_
  rintro e V9 ⟨rfl, h9⟩
  have H8 := Lib.hid (show St (L5 l g n m a k) b9 8 ([(W.heap.size + 1 + 1, Obj.cells #[.string (str g.addr), .slice ua nu uc, .string (str g.data)] 33 (0, 0)), (W.heap.size + 1, Obj.cells #[.string (str l.addr), .slice ta nt tc, .string (str l.data)] 33 (0, 0)), (W.heap.size, Obj.cells #[.int .u64 (k.a : Nat), .int .u64 (k.b : Nat), .int .u64 (k.c : Nat), .int .u64 (k.d : Nat)] 46 (0, 0))]) W V9 from h9)
  clear C H7 h9
  have C := Lib.hid (St.logs H8.out (by omega) (fun z hz => by rw [l5_logs] at hz; rcases List.mem_cons.1 hz with rfl | hz; exact HA.out.2.2.2.2.2.2.1; rw [List.mem_singleton] at hz; rw [hz]; exact HA.out.2.2.2.2.2.2.2.2.2.1))
  rw [l5_logs] at C
  unfold ptr at C
  go_wp2_with fail
  refine C.out.mono ?_
  rintro e V10 ⟨pa10, ca10, rfl, _, h9, _⟩
  have H9 := Lib.hid h9
  clear C H8 h9
  rw [show (([l, g] : List LogP).length) = 2 from rfl]
  have C := Lib.hid (St.leaving H9.out (by omega))
  rw [l5_leav] at C
  unfold ptr at C
  go_wp2_with fail
  refine C.out.mono ?_
  rintro e V11 ⟨pa11, ca11, rfl, h9⟩
  have H10 := Lib.hid h9
  clear C H9 h9
  have C := Lib.hid (St.total H10.out)
  rw [l5_tot l g n m a k HA.out.2.2.2.2.2.2.2.2.2.2] at C
  unfold ptr at C
  go_wp2_with fail
  refine C.out.mono ?_
  rintro e V12 ⟨rfl, rfl⟩
  clear C
  have zk := H10.out.at (q := W.heap.size) (List.mem_cons_of_mem _ (List.mem_cons_of_mem _ (List.mem_cons_self ..)))
  have k0 := cell_of zk 0
  have k1 := cell_of zk 1
  have k2 := cell_of zk 2
  have k3 := cell_of zk 3
  simp only [List.getElem?_toArray, List.getElem?_cons_zero, List.getElem?_cons_succ] at k0 k1 k2 k3
  clear zk
  have C := Lib.hid (St.hasSlot (a := a) (k := k) H10.out (Nat.le_trans HA.out.1 (by decide)) HA.out.2.1)
  rw [l5_slot, show (some () : Option Unit).isSome = true from rfl, show wqC k = #[.int .u64 (k.a : Nat), .int .u64 (k.b : Nat), .int .u64 (k.c : Nat), .int .u64 (k.d : Nat)] from rfl] at C
  unfold ptr at C
  go_wp2_with fail
  refine C.out.mono ?_
  rintro e V13 ⟨rfl, h9⟩
  have H11 := Lib.hid (show St (L5 l g n m a k) b9 8 ([(W.heap.size + 1 + 1, Obj.cells #[.string (str g.addr), .slice ua nu uc, .string (str g.data)] 33 (0, 0)), (W.heap.size + 1, Obj.cells #[.string (str l.addr), .slice ta nt tc, .string (str l.data)] 33 (0, 0)), (W.heap.size, Obj.cells #[.int .u64 (k.a : Nat), .int .u64 (k.b : Nat), .int .u64 (k.c : Nat), .int .u64 (k.d : Nat)] 46 (0, 0))]) W V13 from h9)
  clear C H10 h9
  clear k0 k1 k2 k3
  have C := Lib.hid (St.back H11.out (by omega) 3 (l5_len l g n m a k))
  rw [l5_back, show ((3 : Nat) : Int) = 3 from rfl] at C
  unfold ptr at C
  go_wp2_with fail
  refine C.out.mono ?_
  rintro e V14 ⟨rfl, h9⟩
  have H12 := Lib.hid (show St (La l n) b9 8 ([(W.heap.size + 1 + 1, Obj.cells #[.string (str g.addr), .slice ua nu uc, .string (str g.data)] 33 (0, 0)), (W.heap.size + 1, Obj.cells #[.string (str l.addr), .slice ta nt tc, .string (str l.data)] 33 (0, 0)), (W.heap.size, Obj.cells #[.int .u64 (k.a : Nat), .int .u64 (k.b : Nat), .int .u64 (k.c : Nat), .int .u64 (k.d : Nat)] 46 (0, 0))]) W V14 from h9)
  clear C H11 h9
  have zl := H12.out.at (q := W.heap.size + 1) (List.mem_cons_of_mem _ (List.mem_cons_self ..))
  have l0 := cell_of zl 0
  have l1 := cell_of zl 1
  have l2 := cell_of zl 2
  simp only [List.getElem?_toArray, List.getElem?_cons_zero, List.getElem?_cons_succ] at l0 l1 l2
  clear zl
  go_wp2_with fail
  have HD := Lib.hid (H12.out.call (Below.refl _ V14).drew)
  have S0 := HD.out.at (q := W.heap.size + 1) (List.mem_cons_of_mem _ (List.mem_cons_self ..))
  have HS := Lib.hid (fun (V : World) (hV : V.heap[W.heap.size + 1]? = some (.cells #[.string (str l.addr), .slice ta nt tc, .string (str l.data)] 33 (0, 0))) => (show V.cell? ⟨W.heap.size + 1, 0, none⟩ = some (.string (str l.addr)) ∧ V.cell? ⟨W.heap.size + 1, 1, none⟩ = some (.slice ta nt tc) ∧ V.cell? ⟨W.heap.size + 1, 2, none⟩ = some (.string (str l.data)) from ⟨cell_of hV 0, cell_of hV 1, cell_of hV 2⟩))
  clear H12 l0 l1 l2
  refine Drawn.start (fun V => V.heap[W.heap.size + 1]? = some (.cells #[.string (str l.addr), .slice ta nt tc, .string (str l.data)] 33 (0, 0))) (fun _ => false) (by kernel_rfl) ?_
  generalize World.drew _ = VA at HD S0 ⊢
  refine Drawn.take 0 (some 80) (v := ?_) rfl rfl (by kernel_rfl) (by kernel_rfl) (by kernel_rfl) (by kernel_rfl) (by kernel_rfl) rfl (fun _ _ _ h => h) (Or.inl ⟨rfl, ?_⟩) S0 ?_
  rotate_left
  · intro W hW; have hW := HS.out W hW; go_simp; try with_reducible rfl
  simp only [put_list, List.set]
  refine Drawn.take 2 (some 82) (v := ?_) rfl rfl (by kernel_rfl) (by kernel_rfl) (by kernel_rfl) (by kernel_rfl) (by kernel_rfl) rfl (fun _ _ _ h => h) (Or.inl ⟨rfl, ?_⟩) S0 ?_
  rotate_left
  · intro W hW; have hW := HS.out W hW; go_simp; try with_reducible rfl
  simp only [put_list, List.set]
  have hmem1 : ∀ z ∈ logsOf (La l n), z.tops.length * 32 ≤ 140737488355328 := (fun z hz => by rw [show logsOf (La l n) = [l] from rfl, List.mem_singleton] at hz; rw [hz]; exact HA.out.2.2.2.2.2.2.1)
  have HM1 := Lib.hid hmem1
  clear hmem1
  refine Drawn.among [1, 3] (by kernel_rfl) (by decide) ?_
  intro i hi
  simp only [List.mem_cons, List.not_mem_nil, or_false] at hi
  rcases hi with rfl | rfl
  · refine ⟨_, rfl, rfl, fun K hK => ?_⟩
    have C := Lib.hid (St.logs HD.out (by omega) HM1.out)
    rw [show logsOf (La l n) = [l] from rfl] at C
    unfold ptr at C
    go_simp
    refine C.out.mono ?_
    rintro e VB ⟨pa, ca, rfl, h8, h9, h7⟩
    have HLA := Lib.hid h8
    have HD2 := Lib.hid h9
    have S1 := (h7.block _ (lt_of S0)).trans S0
    refine hK _ _ (fun _ _ => S1) ?_
    clear hK K h7 h8 h9 C S0
    have S0 := S1
    clear S1
    try simp only [put_list, List.set]
    refine Drawn.only 3 (by kernel_rfl) rfl rfl (fun K hK => ?_)
    go_simp
    have h7 : Below VB.heap.size VB (VB.alloc (.cells #[.string (str l.addr), .slice ta nt tc, .string (str l.data)] 33)) := (Below.refl _ _).alloc (Nat.le_refl _) _
    have S1 := (h7.block _ (lt_of S0)).trans S0
    have hn7 := heap_alloc_new VB (.cells #[.string (str l.addr), .slice ta nt tc, .string (str l.data)] 33)
    have HLB := Lib.hid (one_log (hn7) (HA.out.2.2.1.below (HD2.out.below.trans (h7.mono HD2.out.below.size))) (ta := ta) (nt := nt) (tc := tc))
    replace HLA := Lib.hid (HLA.out.below h7)
    have HD3 := Lib.hid (HD2.out.call h7)
    refine hK _ _ (fun _ _ => S1) ?_
    clear hK K h7 S0 hn7 HD2
    have S0 := S1
    clear S1
    try simp only [put_list, List.set]
    refine Drawn.only 4 (by kernel_rfl) rfl rfl (fun K hK => ?_)
    go_simp
    refine (alogs_c (la := [l]) (lb := [l]) HLA.out HLB.out (by show 1 < 4611686018427387904; decide) (fun z hz => by rw [List.mem_singleton] at hz; rw [hz]; have := HA.out.2.2.2.2.2.2.1; omega)).mono ?_
    rintro e VE ⟨rfl, h9⟩
    rw [decide_eq_true rfl]
    have HE := Lib.hid (HD3.out.call h9)
    have S1 := (h9.block _ (lt_of S0)).trans S0
    refine hK _ _ (fun _ _ => S1) ?_
    clear hK K h9 S0 HLA HLB HD3
    have S0 := S1
    clear S1
    try simp only [put_list, List.set]
    refine Drawn.only 5 (by kernel_rfl) rfl rfl (fun K hK => ?_)
    go_simp
    refine hK _ _ (fun _ _ => S0) ?_
    clear hK K S0
    try simp only [put_list, List.set]
    refine Drawn.done (by kernel_rfl) ?_ _
    have H0 := HE
    clear HE
    have C := Lib.hid (St.total H0.out)
    rw [la_tot l n HA.out.2.2.2.2.2.2.2.2.2.2] at C
    unfold ptr at C
    go_wp2_with fail
    refine C.out.mono ?_
    rintro e V35 ⟨rfl, rfl⟩
    clear C
    have C := Lib.hid (St.leaving H0.out (by omega))
    rw [la_leav] at C
    unfold ptr at C
    go_wp2_with fail
    refine C.out.mono ?_
    rintro e V36 ⟨pa36, ca36, rfl, h9⟩
    have H1 := Lib.hid h9
    clear C H0 h9
    have zk := H1.out.at (q := W.heap.size) (List.mem_cons_of_mem _ (List.mem_cons_of_mem _ (List.mem_cons_self ..)))
    have k0 := cell_of zk 0
    have k1 := cell_of zk 1
    have k2 := cell_of zk 2
    have k3 := cell_of zk 3
    simp only [List.getElem?_toArray, List.getElem?_cons_zero, List.getElem?_cons_succ] at k0 k1 k2 k3
    clear zk
    have C := Lib.hid (St.hasSlot (a := a) (k := k) H1.out (Nat.le_trans HA.out.1 (by decide)) HA.out.2.1)
    rw [la_slot, show (none : Option Unit).isSome = false from rfl, show wqC k = #[.int .u64 (k.a : Nat), .int .u64 (k.b : Nat), .int .u64 (k.c : Nat), .int .u64 (k.d : Nat)] from rfl] at C
    unfold ptr at C
    go_wp2_with fail
    refine C.out.mono ?_
    rintro e V37 ⟨rfl, h9⟩
    have H2 := Lib.hid (show St (La l n) b9 8 ([(W.heap.size + 1 + 1, Obj.cells #[.string (str g.addr), .slice ua nu uc, .string (str g.data)] 33 (0, 0)), (W.heap.size + 1, Obj.cells #[.string (str l.addr), .slice ta nt tc, .string (str l.data)] 33 (0, 0)), (W.heap.size, Obj.cells #[.int .u64 (k.a : Nat), .int .u64 (k.b : Nat), .int .u64 (k.c : Nat), .int .u64 (k.d : Nat)] 46 (0, 0))]) W V37 from h9)
    clear C H1 h9
    have C := Lib.hid (St.hasAddr (a := Fst) H2.out HF.out.2)
    rw [la_first, show (some () : Option Unit).isSome = true from rfl, show str Fst = ⟨#[102, 105, 114, 115, 116]⟩ from rfl] at C
    unfold ptr at C
    go_wp2_with fail
    refine C.out.mono ?_
    rintro e V38 ⟨rfl, h9⟩
    have H3 := Lib.hid (show St (La l n) b9 8 ([(W.heap.size + 1 + 1, Obj.cells #[.string (str g.addr), .slice ua nu uc, .string (str g.data)] 33 (0, 0)), (W.heap.size + 1, Obj.cells #[.string (str l.addr), .slice ta nt tc, .string (str l.data)] 33 (0, 0)), (W.heap.size, Obj.cells #[.int .u64 (k.a : Nat), .int .u64 (k.b : Nat), .int .u64 (k.c : Nat), .int .u64 (k.d : Nat)] 46 (0, 0))]) W V38 from h9)
    clear C H2 h9
    have C := Lib.hid (St.hasAddr (a := Fst ++ a) H3.out HF.out.1)
    rw [la_addr, ← hX] at C
    rw [show (if a = [] then some () else none : Option Unit).isSome = decide (a = []) from by by_cases h : a = [] <;> simp [h], HR.out] at C
    unfold ptr at C
    go_wp2_with fail
    refine C.out.mono ?_
    rintro e V39 ⟨rfl, h9⟩
    have H4 := Lib.hid (show St (La l n) b9 8 ([(W.heap.size + 1 + 1, Obj.cells #[.string (str g.addr), .slice ua nu uc, .string (str g.data)] 33 (0, 0)), (W.heap.size + 1, Obj.cells #[.string (str l.addr), .slice ta nt tc, .string (str l.data)] 33 (0, 0)), (W.heap.size, Obj.cells #[.int .u64 (k.a : Nat), .int .u64 (k.b : Nat), .int .u64 (k.c : Nat), .int .u64 (k.d : Nat)] 46 (0, 0))]) W V39 from h9)
    clear C H3 h9
    have C := Lib.hid (St.mark H4.out)
    rw [show (((La l n).length : Nat) : Int) = 3 from rfl] at C
    unfold ptr at C
    go_wp2_with fail
    refine C.out.mono ?_
    rintro e V40 ⟨rfl, rfl⟩
    clear C
    go_wp2_with fail
    go_ret
    exact ⟨by cases r <;> rfl, H4.out.below⟩
  · refine ⟨_, rfl, rfl, fun K hK => ?_⟩
    go_simp
    have h7 : Below VA.heap.size VA (VA.alloc (.cells #[.string (str l.addr), .slice ta nt tc, .string (str l.data)] 33)) := (Below.refl _ _).alloc (Nat.le_refl _) _
    have S1 := (h7.block _ (lt_of S0)).trans S0
    have hn7 := heap_alloc_new VA (.cells #[.string (str l.addr), .slice ta nt tc, .string (str l.data)] 33)
    have HLB0 := Lib.hid (one_log (hn7) (HA.out.2.2.1.below (HD.out.below.trans (h7.mono HD.out.below.size))) (ta := ta) (nt := nt) (tc := tc))
    have HD2 := Lib.hid (HD.out.call h7)
    refine hK _ _ (fun _ _ => S1) ?_
    clear hK K h7 S0 hn7
    have S0 := S1
    clear S1
    try simp only [put_list, List.set]
    refine Drawn.only 1 (by kernel_rfl) rfl rfl (fun K hK => ?_)
    have C := Lib.hid (St.logs HD2.out (by omega) HM1.out)
    rw [show logsOf (La l n) = [l] from rfl] at C
    unfold ptr at C
    go_simp
    refine C.out.mono ?_
    rintro e VC ⟨pa, ca, rfl, h8, h9, h7⟩
    have HLA := Lib.hid h8
    have HD3 := Lib.hid h9
    have S1 := (h7.block _ (lt_of S0)).trans S0
    have HLB := Lib.hid (HLB0.out.below h7)
    refine hK _ _ (fun _ _ => S1) ?_
    clear hK K h7 h8 h9 C S0 HLB0
    have S0 := S1
    clear S1
    try simp only [put_list, List.set]
    refine Drawn.only 4 (by kernel_rfl) rfl rfl (fun K hK => ?_)
    go_simp
    refine (alogs_c (la := [l]) (lb := [l]) HLA.out HLB.out (by show 1 < 4611686018427387904; decide) (fun z hz => by rw [List.mem_singleton] at hz; rw [hz]; have := HA.out.2.2.2.2.2.2.1; omega)).mono ?_
    rintro e VE ⟨rfl, h9⟩
    rw [decide_eq_true rfl]
    have HE := Lib.hid (HD3.out.call h9)
    have S1 := (h9.block _ (lt_of S0)).trans S0
    refine hK _ _ (fun _ _ => S1) ?_
    clear hK K h9 S0 HLA HLB HD3
    have S0 := S1
    clear S1
    try simp only [put_list, List.set]
    refine Drawn.only 5 (by kernel_rfl) rfl rfl (fun K hK => ?_)
    go_simp
    refine hK _ _ (fun _ _ => S0) ?_
    clear hK K S0
    try simp only [put_list, List.set]
    refine Drawn.done (by kernel_rfl) ?_ _
    have H0 := HE
    clear HE
    have C := Lib.hid (St.total H0.out)
    rw [la_tot l n HA.out.2.2.2.2.2.2.2.2.2.2] at C
    unfold ptr at C
    go_wp2_with fail
    refine C.out.mono ?_
    rintro e V35 ⟨rfl, rfl⟩
    clear C
    have C := Lib.hid (St.leaving H0.out (by omega))
    rw [la_leav] at C
    unfold ptr at C
    go_wp2_with fail
    refine C.out.mono ?_
    rintro e V36 ⟨pa36, ca36, rfl, h9⟩
    have H1 := Lib.hid h9
    clear C H0 h9
    have zk := H1.out.at (q := W.heap.size) (List.mem_cons_of_mem _ (List.mem_cons_of_mem _ (List.mem_cons_self ..)))
    have k0 := cell_of zk 0
    have k1 := cell_of zk 1
    have k2 := cell_of zk 2
    have k3 := cell_of zk 3
    simp only [List.getElem?_toArray, List.getElem?_cons_zero, List.getElem?_cons_succ] at k0 k1 k2 k3
    clear zk
    have C := Lib.hid (St.hasSlot (a := a) (k := k) H1.out (Nat.le_trans HA.out.1 (by decide)) HA.out.2.1)
    rw [la_slot, show (none : Option Unit).isSome = false from rfl, show wqC k = #[.int .u64 (k.a : Nat), .int .u64 (k.b : Nat), .int .u64 (k.c : Nat), .int .u64 (k.d : Nat)] from rfl] at C
    unfold ptr at C
    go_wp2_with fail
    refine C.out.mono ?_
    rintro e V37 ⟨rfl, h9⟩
    have H2 := Lib.hid (show St (La l n) b9 8 ([(W.heap.size + 1 + 1, Obj.cells #[.string (str g.addr), .slice ua nu uc, .string (str g.data)] 33 (0, 0)), (W.heap.size + 1, Obj.cells #[.string (str l.addr), .slice ta nt tc, .string (str l.data)] 33 (0, 0)), (W.heap.size, Obj.cells #[.int .u64 (k.a : Nat), .int .u64 (k.b : Nat), .int .u64 (k.c : Nat), .int .u64 (k.d : Nat)] 46 (0, 0))]) W V37 from h9)
    clear C H1 h9
    have C := Lib.hid (St.hasAddr (a := Fst) H2.out HF.out.2)
    rw [la_first, show (some () : Option Unit).isSome = true from rfl, show str Fst = ⟨#[102, 105, 114, 115, 116]⟩ from rfl] at C
    unfold ptr at C
    go_wp2_with fail
    refine C.out.mono ?_
    rintro e V38 ⟨rfl, h9⟩
    have H3 := Lib.hid (show St (La l n) b9 8 ([(W.heap.size + 1 + 1, Obj.cells #[.string (str g.addr), .slice ua nu uc, .string (str g.data)] 33 (0, 0)), (W.heap.size + 1, Obj.cells #[.string (str l.addr), .slice ta nt tc, .string (str l.data)] 33 (0, 0)), (W.heap.size, Obj.cells #[.int .u64 (k.a : Nat), .int .u64 (k.b : Nat), .int .u64 (k.c : Nat), .int .u64 (k.d : Nat)] 46 (0, 0))]) W V38 from h9)
    clear C H2 h9
    have C := Lib.hid (St.hasAddr (a := Fst ++ a) H3.out HF.out.1)
    rw [la_addr, ← hX] at C
    rw [show (if a = [] then some () else none : Option Unit).isSome = decide (a = []) from by by_cases h : a = [] <;> simp [h], HR.out] at C
    unfold ptr at C
    go_wp2_with fail
    refine C.out.mono ?_
    rintro e V39 ⟨rfl, h9⟩
    have H4 := Lib.hid (show St (La l n) b9 8 ([(W.heap.size + 1 + 1, Obj.cells #[.string (str g.addr), .slice ua nu uc, .string (str g.data)] 33 (0, 0)), (W.heap.size + 1, Obj.cells #[.string (str l.addr), .slice ta nt tc, .string (str l.data)] 33 (0, 0)), (W.heap.size, Obj.cells #[.int .u64 (k.a : Nat), .int .u64 (k.b : Nat), .int .u64 (k.c : Nat), .int .u64 (k.d : Nat)] 46 (0, 0))]) W V39 from h9)
    clear C H3 h9
    have C := Lib.hid (St.mark H4.out)
    rw [show (((La l n).length : Nat) : Int) = 3 from rfl] at C
    unfold ptr at C
    go_wp2_with fail
    refine C.out.mono ?_
    rintro e V40 ⟨rfl, rfl⟩
    clear C
    go_wp2_with fail
    go_ret
    exact ⟨by cases r <;> rfl, H4.out.below⟩
end Go.Proofs.Ytginibphicmmmaa
