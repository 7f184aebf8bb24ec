/- WarmMarks. -/
import Derived.Test.YtginibphicmmmaaJq
import Derived.Test.YtginibphicmmmaaAmong
import Derived.Deep.CutRange
namespace Go.Proofs.Ytginibphicmmmaa
open Go.RowKit Go.Maps Go.Shelf Mp

theorem run_min2 {ops : Array Oper} {rest : List Oper} {o : Oper} {a : Act} {Q : Exit → Act → World → Prop} {W : World} (hgd : o.guard = none) (x y : Operand) (ts : Array TypeId)
    (ho : o.op = .call { callee := .builtin .min, args := #[x, y], argTypes := ts }) (i j : Int) (hx : a.eval x = .int .i64 i) (hy : a.eval y = .int .i64 j)
    (h : ∀ q : Int, q = (if j < i then j else i) → wpList Try.prog ops Q rest (a.put o.dst (.int .i64 q)) W) : wpList Try.prog ops Q (o :: rest) a W := by
  refine wpList_plain hgd fun K hK => ?_
  have hr := run_min_int2 (P := Try.prog) (w := W) ts o.type .i64 .i64 i j
  unfold Oper.wp execOp
  simp only [ho, resolve, invoke, builtin, Sem.run_bind, Sem.run_pure, Result.andThen_ok, List.map_toArray, List.map_cons, List.map_nil, hx, hy, hr]
  exact hK _ _ (h _ rfl)
/-- Bytes in a slice that is handed in. -/
def U8s (W : World) (pa : Option Addr) (xs : List Nat) : Prop := ∀ (i u : Nat), xs[i]? = some u → u < 256 ∧ ∃ g o, pa = some ⟨g, o, none⟩ ∧ g < W.heap.size ∧ W.cell? ⟨g, o + i, none⟩ = some (.int .u8 (u : Nat))
theorem infoInt : (Try.prog.info? 3).map (fun i => (i.zero, i.size, i.bytes)) = some (some (.int .i64 0), 1, 8) := by kernel_rfl
/-- What was met. -/
def metO (ks : List Nat) : Obj := .cells #[.bool (decide (0 ∈ ks)), .bool (decide (1 ∈ ks)), .bool (decide (2 ∈ ks))] 4 (0, 0)
def kseq (xs : List Nat) (i : Nat) : List Nat := ((xs.take i).map (· % 3)).reverse
theorem kseq_succ {xs : List Nat} {i u : Nat} (h : xs[i]? = some u) : kseq xs (i + 1) = (u % 3) :: kseq xs i := by
  unfold kseq
  rw [List.take_add_one, h]
  simp
theorem kseq_lt (xs : List Nat) (i : Nat) : ∀ j ∈ kseq xs i, j < 3 := by
  intro j hj
  unfold kseq at hj
  rw [List.mem_reverse, List.mem_map] at hj
  obtain ⟨u, _, rfl⟩ := hj
  exact Nat.mod_lt _ (by omega)
/-- The marks noted so far. -/
def marksV (xs : List Nat) (i : Nat) : List Value := (List.range i).map fun j => .int .i64 ((mkL (kseq xs j)).length : Nat)
theorem marksV_succ (xs : List Nat) (i : Nat) : marksV xs (i + 1) = marksV xs i ++ [.int .i64 ((mkL (kseq xs i)).length : Nat)] := by
  unfold marksV
  rw [List.range_succ, List.map_append]; rfl
theorem marksV_len (xs : List Nat) (i : Nat) : (marksV xs i).length = i := by unfold marksV; simp
theorem le12 {i N len : Nat} (h : i ≤ N) (hN : N = min len 12) : i ≤ 12 := by omega
theorem small_max {i : Nat} (h : i ≤ 12) : i + 1 ≤ maxLen := by unfold maxLen; omega
theorem small_bytes {i : Nat} (h : i ≤ 12) : (i + 1) * 8 ≤ 140737488355328 := by omega
theorem wrap_succ {i : Nat} (h : i ≤ 12) : wrap64 ((i : Int) + 1) = (i : Int) + 1 := IntWalk.wrap64_in _ ⟨by omega, by omega⟩
theorem few2 {i : Nat} (h : i ≤ 12) : 2 * i < 1000000000 := by omega
theorem few21 {i : Nat} (h : i ≤ 12) : 2 * i + 1 < 1000000000 := by omega
theorem meas {i N : Nat} (h : i < N) : N - (intOf (.int .i64 ((i : Int) + 1))).toNat < N - (intOf (.int .i64 (i : Int))).toNat := by simp [intOf]; omega
theorem wrap_two {i : Nat} (h : i ≤ 24) : wrap64 ((i : Int) + 2) = (i : Int) + 2 := IntWalk.wrap64_in _ ⟨by omega, by omega⟩
theorem kseq_le {xs : List Nat} {i : Nat} (h : i ≤ 12) : 2 * (kseq xs i).length ≤ 24 := by
  unfold kseq; simp; omega
theorem wrap_pred {i : Nat} (h : i ≤ 12) : wrap64 ((i : Int) - 1) = (i : Int) - 1 := IntWalk.wrap64_in _ ⟨by omega, by omega⟩
theorem half (g : Nat) : ((2 * g : Nat) : Int).tdiv 2 = (g : Int) := by rw [Int.tdiv_eq_ediv_of_nonneg (by omega)]; omega
theorem mk_mono (xs : List Nat) (j : Nat) : (mkL (kseq xs j)).length ≤ (mkL (kseq xs (j + 1))).length := by
  cases h : xs[j]? with
  | some u => rw [kseq_succ h, mk_cons_len]; exact Nat.le_add_right _ _
  | none =>
    have : xs.take (j + 1) = xs.take j := by rw [List.take_add_one, h]; simp
    unfold kseq; rw [this]; exact Nat.le_refl _
theorem back_to {xs : List Nat} {j lm : Nat} (h : lm = (mkL (kseq xs j)).length) : (mkL (kseq xs (j + 1))).drop ((mkL (kseq xs (j + 1))).length - lm) = mkL (kseq xs j) := by
  subst h
  cases hu : xs[j]? with
  | some u => rw [kseq_succ hu, mk_drop]
  | none =>
    have : kseq xs (j + 1) = kseq xs j := by unfold kseq; rw [List.take_add_one, hu]; simp
    rw [this]; simp
theorem marks_at {V : World} {xs : List Nat} {gm i cm j lm : Nat} (h : V.ownsRow 0 3 1 (.slice (some ⟨gm, 0, none⟩) i cm) i (marksV xs i)) (hj : j < i) (hl : lm = (mkL (kseq xs j)).length) : V.cell? ⟨gm, j, none⟩ = some (.int .i64 (lm : Nat)) := by
  rcases h.2 with ⟨e, _⟩ | ⟨g, cap, cur, e, _, hg, _, _, _, hx⟩
  · cases e
  · cases e
    rw [cell_of hg]
    have e1 : cur[j]? = (cur.toList.take (i * 1))[j]? := by rw [List.getElem?_take_of_lt (by omega)]; simp
    rw [e1, hx, hl]
    unfold marksV
    rw [List.getElem?_map, List.getElem?_range (by omega)]
    rfl
theorem wrapk {g lm : Nat} (h : lm = 2 * g) (hl : lm ≤ 24) : IntKind.i64.wrap (g : Int) = (g : Int) := IntWalk.i64_in _ ⟨by omega, by omega⟩
theorem tmod3 (u : Nat) : (u : Int).tmod 3 = ((u % 3 : Nat) : Int) := by
  rw [Int.tmod_eq_emod_of_nonneg (by omega)]; omega
theorem isSome_if {p : Prop} [Decidable p] : (if p then some () else none : Option Unit).isSome = decide p := by by_cases h : p <;> simp [h]
theorem met_cell {V : World} {m0 : Nat} {ks : List Nat} (h : V.heap[m0]? = some (metO ks)) {k : Nat} (hk : k < 3) : V.cell? ⟨m0, k, none⟩ = some (.bool (decide (k ∈ ks))) := by
  rw [cell_of h k]
  have : k = 0 ∨ k = 1 ∨ k = 2 := by omega
  rcases this with rfl | rfl | rfl <;> rfl
theorem met_set {V : World} {m0 : Nat} {ks : List Nat} (h : V.heap[m0]? = some (metO ks)) {k : Nat} (hk : k < 3) : (V.setCell ⟨m0, k, none⟩ (.bool true)).heap[m0]? = some (metO (k :: ks)) := by
  have h2 := heap_setCell_same _ _ k _ _ (.bool true) h
  rw [h2]
  have : k = 0 ∨ k = 1 ∨ k = 2 := by omega
  rcases this with rfl | rfl | rfl <;> simp [metO]
set_option maxRecDepth 100000 in
set_option maxHeartbeats 8000000 in
theorem marks_c {pa : Option Addr} {len cap : Nat} {xs : List Nat} {W : World} (hU : U8s W pa xs) (hl : xs.length = len) (hc : len ≤ cap) (hn : pa = none → cap = 0) :
    Calls Try.prog 6 #[.slice pa len cap] W fun e W' => e = .returned (.bool true) ∧ Below W.heap.size W W' := by
  obtain ⟨N, hN⟩ : ∃ N, N = min len 12 := ⟨_, rfl⟩
  have hs := slice_head (z := 1) Try.underlying55 (fun w => by kernel_rfl) pa len N cap (by omega) hn
  have HH := Lib.hid (And.intro hU (And.intro hl (And.intro hN hn)))
  have hq : ∀ q : Int, q = (if (12 : Int) < (len : Int) then 12 else (len : Int)) → q = (N : Int) := fun q hq => by
    subst hq hN
    split <;> omega
  have HQ := Lib.hid hq
  clear hU hl hc hn hN hq
  go_enter Try.func6, Try.ntmps6
  go_wp2_with fail
  refine (exam_c _).mono ?_
  rintro e V0 ⟨rfl, h9⟩
  have CN := Lib.hid (St.new (W := W) (V := V0) (B := []) h9 (fun _ h => by cases h))
  unfold ptr at CN
  clear h9
  go_wp2_with fail
  refine CN.out.mono ?_
  rintro e V1 ⟨b, rfl, h9⟩
  have H1 := Lib.hid (h9.with.alloc (metO []))
  clear CN h9
  go_upto_region 12 with (refine run_min2 (by rfl) _ _ _ (by rfl) (len : Int) 12 (by rfl) (by rfl) ?_; intro q hq0; obtain rfl := HQ.out q hq0; clear hq0)
  obtain ⟨m0, hm0⟩ : ∃ m0, m0 = V1.heap.size := ⟨_, rfl⟩
  rw [← hm0] at H1 ⊢
  have H2 := Lib.hid (H1.out.own (gt' := fun k => (Value.slice none 0 0).ownBlock = some k) ⟨rfl, rfl, rfl, Nat.le_refl _, fun _ _ _ => rfl, fun _ h => by cases h⟩ (row_ob (World.ownsRow_nil (V1.alloc (metO [])) 0 3 1)))
  clear H1 hm0
  go_loopw [5, 7, 8] (fun mv nv iv wr => ∃ i : Nat, i ≤ N ∧ iv = .int .i64 (i : Nat) ∧ nv = .int .i64 ((mkL (kseq xs i)).length : Nat) ∧ StJ (mkL (kseq xs i)) b (2 * i) (fun V => V.ownsRow 0 3 1 mv i (marksV xs i)) (fun k => mv.ownBlock = some k) [(m0, metO (kseq xs i))] W wr) (fun _ _ iv _ => N - (intOf iv).toNat)
  case atStart => exact ⟨0, Nat.zero_le _, rfl, rfl, H2.out⟩
  case round =>
    obtain ⟨i, hi, rfl, rfl, h⟩ := hrel
    by_cases hlt : i < N
    · obtain ⟨u, hu⟩ : ∃ u, xs[i]? = some u := ⟨_, List.getElem?_eq_getElem (by have := HH.out.2.1; have := HH.out.2.2.1; omega)⟩
      obtain ⟨hu2, g, o, hpa, hg, hcell⟩ := HH.out.1 i u hu
      subst hpa
      have d0 : wr.cell? ⟨g, o + i, none⟩ = some (.int .u8 (u : Nat)) := by rw [World.cell?, h.below.block g hg]; exact hcell
      have hli : (i : Int) < (N : Int) := by omega
      obtain ⟨k, hk⟩ : ∃ k, k = u % 3 := ⟨_, rfl⟩
      have hk3 : k < 3 := by omega
      have hr1 : (u : Int).tmod 3 = (k : Int) := by rw [hk]; exact tmod3 u
      have hr2 : (u : Int) % 3 = (k : Int) := by omega
      have hki : (k : Int) < 3 := by omega
      have hn : ((#[Value.string ⟨#[97]⟩, .string ⟨#[98]⟩, .string ⟨#[99]⟩] : Array Value))[k]? = some (.string (str (adr k))) := by
        have : k = 0 ∨ k = 1 ∨ k = 2 := by omega
        rcases this with rfl | rfl | rfl <;> rfl
      have hks := kseq_succ hu
      rw [← hk] at hks
      have hi12 : i ≤ 12 := le12 hi HH.out.2.2.1
      have HX := Lib.hid (And.intro h (And.intro hks (And.intro hi (And.intro hlt hk3))))
      clear h hks hi hlt hk hk3 hu2 hcell hg hu
      go_upto_region 16 with fail
      have H3 := Lib.hid (HX.out.1.call ((Below.refl _ wr).alloc (Nat.le_refl _) (.cells #[.string ⟨#[97]⟩, .string ⟨#[98]⟩, .string ⟨#[99]⟩] 9)))
      clear d0 hr1 hr2 hn hki H2
      generalize World.alloc wr _ = V3 at H3 ⊢
      obtain ⟨a5, c5, hm5⟩ := own_any H3.out.it
      subst hm5
      have C := Lib.hid H3.out.mark
      unfold ptr at C
      obtain ⟨i0, hif, hz0, hz1, hz2⟩ := info_parts infoInt
      have HI := Lib.hid (And.intro hif (And.intro hz0 (And.intro hz1 hz2)))
      clear hif hz0 hz1 hz2
      go_wp2_with fail
      refine C.out.mono ?_
      rintro e V4 ⟨rfl, rfl⟩
      clear C
      obtain ⟨lm, hlm⟩ : ∃ lm, lm = (mkL (kseq xs i)).length := ⟨_, rfl⟩
      rw [← hlm]
      have H4 := Lib.hid (H3.out.call ((Below.refl _ V4).alloc (Nat.le_refl _) (.cells #[.int .i64 (lm : Nat)] 3)))
      have HM := Lib.hid hlm
      clear hlm
      go_upto_region 17 with (at_builtin; refine wpList_append_lies _ (by rfl) _ _ 56 (by rfl) 0 3 i0 _ 1 8 Try.underlying56 HI.out.1 HI.out.2.1 HI.out.2.2.1 HI.out.2.2.2 rfl (by omega) (.slice a5 i c5) i (marksV xs i) (by rfl) H4.out.it ⟨V4.heap.size, 0, none⟩ 1 1 [.int .i64 (lm : Nat)] (by rfl) rfl (one_cell (heap_alloc_new V4 _)) (by intro u hu; rw [List.mem_singleton] at hu; rw [hu]; rfl) (by omega) (small_max hi12) (small_bytes hi12) (Nat.zero_le _) _ rfl ?_; intro g1 cp1 V5 r1 g2 l1 m1; have HR := Lib.hid (And.intro r1 (And.intro g2 (And.intro l1 m1))); clear r1 g2 l1 m1)
      have H5 := Lib.hid (show StJ (mkL (kseq xs i)) b (2 * i) (fun V => V.ownsRow 0 3 1 (.slice (some ⟨g1, 0, none⟩) (i + 1) cp1) (i + 1) (marksV xs (i + 1))) (fun k => (Value.slice (some ⟨g1, 0, none⟩) (i + 1) cp1).ownBlock = some k) [(m0, metO (kseq xs i))] W V5 from
        H4.out.own ((chg_grown HR.out.2.1 fun _ hk => hk).newer fun j hj => by
          cases hj
          rcases HR.out.2.2.1 with e | e
          · exact Or.inl e
          · exact Or.inr (Nat.le_of_eq e.symm)) (row_ob (by rw [marksV_succ, ← HM.out]; exact HR.out.1)))
      clear H3 H4 HR HI i0
      have hone : (adr k).length ≤ big := by simp [adr, big]
      have hpl := mk_pl HX.out.2.2.2.2 (kseq_lt xs i)
      have CA := Lib.hid (StJ.addr (a := adr k) H5.out (few2 hi12) hone)
      rw [hpl, isSome_if] at CA
      clear hpl
      unfold ptr at CA
      go_wp2_with fail
      refine CA.out.mono ?_
      rintro e V6 ⟨rfl, h9⟩
      have H6 := Lib.hid h9
      have CG := Lib.hid (StJ.gone (a := adr k) H6.out (few21 hi12) hone)
      unfold ptr at CG
      clear h9 CA H5
      go_wp2_with fail
      refine CG.out.mono ?_
      rintro e V7 ⟨rfl, h9⟩
      rw [mk_step HX.out.2.2.2.2 (kseq_lt xs i), ← HX.out.2.1] at h9
      have H7 := Lib.hid h9
      have k0 := met_cell (H7.out.at (q := m0) (List.mem_cons_self ..)) HX.out.2.2.2.2
      have f0 : V7.frozen? ⟨m0, k, none⟩ = false := free_of (H7.out.at (q := m0) (List.mem_cons_self ..)) k
      have hlen := mk_cons_len k (kseq xs i)
      rw [← HX.out.2.1, ← HM.out] at hlen
      clear h9 CG H6 hone
      have H8 := Lib.hid (show StJ (mkL (kseq xs (i + 1))) b (2 * (i + 1)) (fun V => V.ownsRow 0 3 1 (.slice (some ⟨g1, 0, none⟩) (i + 1) cp1) (i + 1) (marksV xs (i + 1))) (fun k => (Value.slice (some ⟨g1, 0, none⟩) (i + 1) cp1).ownBlock = some k) [(m0, metO (kseq xs (i + 1)))] W (V7.setCell ⟨m0, k, none⟩ (.bool true)) from by
        have := (H7.out.put (chg_set (F := fun j => j = m0) (F' := fun j => j = m0) (Chg.refl _ V7) (Or.inl rfl) k (.bool true)) (met_set (H7.out.at (q := m0) (List.mem_cons_self ..)) HX.out.2.2.2.2) (by simp)).mono (n' := 2 * (i + 1)) (by omega)
        rw [← HX.out.2.1] at this
        exact this)
      have CM := Lib.hid H8.out.mark
      unfold ptr at CM
      have hki : (k : Int) < 3 := by have := HX.out.2.2.2.2; omega
      by_cases hm : k ∈ kseq xs i
      · rw [if_pos hm] at hlen
        rw [hlen, Nat.add_zero] at CM
        rw [decide_eq_true hm] at *
        have HL := Lib.hid hlen
        have hw : wrap64 ((i : Int) + 1) = (i : Int) + 1 := wrap_succ hi12
        clear hlen hm
        go_wp2_with fail
        refine CM.out.mono ?_
        rintro e V8 ⟨rfl, rfl⟩
        clear CM k0 f0
        go_wp2_with fail
        go_roundw
        case rel => exact ⟨i + 1, HX.out.2.2.2.1, by go_num, by rw [HL.out, Nat.add_zero], H8.out⟩
        case measure => exact meas HX.out.2.2.2.1
      · rw [if_neg hm] at hlen
        rw [hlen, show ((lm + 2 : Nat) : Int) = (lm : Int) + 2 from rfl] at CM
        rw [decide_eq_false hm] at *
        have HL := Lib.hid hlen
        have hw : wrap64 ((i : Int) + 1) = (i : Int) + 1 := wrap_succ hi12
        have hw2 : wrap64 ((lm : Int) + 2) = (lm : Int) + 2 := wrap_two (by rw [HM.out]; exact Nat.le_trans (mk_le _) (kseq_le hi12))
        clear hlen hm
        go_wp2_with fail
        refine CM.out.mono ?_
        rintro e V8 ⟨rfl, rfl⟩
        clear CM k0 f0
        go_wp2_with fail
        go_roundw
        case rel => exact ⟨i + 1, HX.out.2.2.2.1, by go_num, by rw [HL.out]; rfl, H8.out⟩
        case measure => exact meas HX.out.2.2.2.1
    · -- the second loop
      obtain rfl : i = N := Nat.le_antisymm hi (Nat.le_of_not_lt hlt)
      have hi12 : i ≤ 12 := le12 (Nat.le_refl i) HH.out.2.2.1
      have hni : ¬ ((i : Int) < (i : Int)) := Int.lt_irrefl _
      have hw3 : wrap64 ((i : Int) - 1) = (i : Int) - 1 := wrap_pred hi12
      have H9 := Lib.hid ((h.sub (B' := []) (fun _ h => by cases h)).mono (n' := 24) (by omega))
      clear h H2 hi hlt
      go_wp2_with fail
      go_loopw [12] (fun iv wr => ∃ j : Nat, j ≤ i ∧ iv = .int .i64 ((j : Int) - 1) ∧ StJ (mkL (kseq xs j)) b 24 (fun V => V.ownsRow 0 3 1 u5 i (marksV xs i)) (fun k => u5.ownBlock = some k) [] W wr) (fun iv _ => (intOf iv + 1).toNat)
      case atStart => exact ⟨i, Nat.le_refl _, rfl, H9.out⟩
      case round =>
        obtain ⟨j, hj, rfl, h⟩ := hrel
        cases j with
        | zero =>
          have H := Lib.hid h
          have C := Lib.hid h.mark
          rw [show ((mkL (kseq xs 0)).length : Int) = 0 from rfl] at C
          unfold ptr at C
          rw [show (((0 : Nat) : Int) - 1) = -1 from rfl]
          clear h hj
          go_wp2_with fail
          refine C.out.mono ?_
          rintro e V8 ⟨rfl, rfl⟩
          go_wp2_with fail
          go_ret
          exact ⟨rfl, H.out.below⟩
        | succ j =>
          rw [show (((j + 1 : Nat) : Int) - 1) = (j : Int) from by omega]
          have hji : (j : Int) < (i : Int) := by omega
          have hj0 : (0 : Int) ≤ (j : Int) := by omega
          have hw4 : wrap64 ((j : Int) - 1) = (j : Int) - 1 := wrap_pred (Nat.le_trans (Nat.le_of_succ_le hj) hi12)
          obtain ⟨i9, hi9⟩ : ∃ i9, i = i9 + 1 := ⟨i - 1, by omega⟩
          have hrow := h.it
          rw [hi9] at hrow
          obtain ⟨gm, cm, cur, hmv, _, hgm, _, _, _, hx⟩ := row_form hrow
          rw [← hi9] at hmv hx
          subst hmv
          obtain ⟨lm, hlm⟩ : ∃ lm, lm = (mkL (kseq xs j)).length := ⟨_, rfl⟩
          have S0 : wr.cell? ⟨gm, j, none⟩ = some (.int .i64 (lm : Nat)) := by
            rw [cell_of hgm]
            have e1 : cur[j]? = (cur.toList.take (i * 1))[j]? := by rw [List.getElem?_take_of_lt (by omega)]; simp
            rw [e1, hx, hlm]
            unfold marksV
            rw [List.getElem?_map, List.getElem?_range (by omega)]
            rfl
          obtain ⟨u, hu⟩ : ∃ u, xs[j]? = some u := ⟨_, List.getElem?_eq_getElem (by have := HH.out.2.1; have := HH.out.2.2.1; omega)⟩
          have hks := kseq_succ hu
          have hgl := mk_len (kseq xs j)
          obtain ⟨gl, hgl2⟩ : ∃ gl, gl = (goneL (mkL (kseq xs j))).length := ⟨_, rfl⟩
          rw [← hlm, ← hgl2] at hgl
          have hq1 : (lm : Int).tdiv 2 = (gl : Int) := by rw [hgl]; exact half gl
          have hq2 : (lm : Int) / 2 = (gl : Int) := by rw [hgl]; omega
          have hw5 : IntKind.i64.wrap (gl : Int) = (gl : Int) := wrapk hgl (by rw [hlm]; exact Nat.le_trans (mk_le _) (kseq_le (Nat.le_trans (Nat.le_of_succ_le hj) hi12)))
          have hlen : lm ≤ (mkL (kseq xs (j + 1))).length := by rw [hks, mk_cons_len, hlm]; exact Nat.le_add_right _ _
          have C1 := Lib.hid (h.back (by decide) lm hlen)
          rw [hks] at C1
          rw [hlm, mk_drop] at C1
          rw [← hlm] at C1
          unfold ptr at C1
          have HX := Lib.hid (And.intro h (And.intro hj (And.intro hlm (And.intro hgl hgl2))))
          clear h hj hlm hgl hgl2 hrow hgm hx hu hks hlen hi9
          go_wp2_with fail
          refine Drawn.start (fun V => V.cell? ⟨gm, j, none⟩ = some (.int .i64 (lm : Nat))) (fun _ => false) (by kernel_rfl) ?_
          have HD := Lib.hid (show StJ (mkL (kseq xs (j + 1))) b 24 (fun V => V.ownsRow 0 3 1 (.slice (some ⟨gm, 0, none⟩) i cm) i (marksV xs i)) (fun k => (Value.slice (some ⟨gm, 0, none⟩) i cm).ownBlock = some k) [] W wr.drew from HX.out.1.drew)
          replace S0 : wr.drew.cell? ⟨gm, j, none⟩ = some (.int .i64 (lm : Nat)) := S0
          clear C1
          have C1 := Lib.hid (HD.out.back (by decide) lm (by have := HX.out.2.2.1; rw [this]; exact mk_mono _ _))
          rw [back_to HX.out.2.2.1] at C1
          unfold ptr at C1
          generalize World.drew _ = V0' at HD S0 C1 ⊢
          refine Drawn.take 0 (some 79) (v := ?_) rfl rfl (by kernel_rfl) (by kernel_rfl) (by kernel_rfl) (by kernel_rfl) (by kernel_rfl) rfl (fun _ _ _ h => h) (Or.inl ⟨rfl, ?_⟩) S0 ?_
          rotate_left
          · intro W hW; go_simp; try with_reducible rfl
          simp only [put_list, List.set]
          refine Drawn.take 1 (some 80) (v := ?_) rfl rfl (by kernel_rfl) (by kernel_rfl) (by kernel_rfl) (by kernel_rfl) (by kernel_rfl) rfl (fun _ _ _ h => h) (Or.inl ⟨rfl, ?_⟩) S0 ?_
          rotate_left
          · intro W hW; go_simp; try with_reducible rfl
          simp only [put_list, List.set]
          refine Drawn.take 2 (some 81) (v := ?_) rfl rfl (by kernel_rfl) (by kernel_rfl) (by kernel_rfl) (by kernel_rfl) (by kernel_rfl) rfl (fun _ _ _ h => h) (Or.inl ⟨rfl, ?_⟩) S0 ?_
          rotate_left
          · intro W hW; go_simp; try with_reducible rfl
          simp only [put_list, List.set]
          refine Drawn.take 3 (some 82) (v := ?_) rfl rfl (by kernel_rfl) (by kernel_rfl) (by kernel_rfl) (by kernel_rfl) (by kernel_rfl) rfl (fun _ _ _ h => h) (Or.inl ⟨rfl, ?_⟩) S0 ?_
          rotate_left
          · intro W hW; go_simp; try with_reducible rfl
          simp only [put_list, List.set]
          refine Drawn.take 4 (some 83) (v := ?_) rfl rfl (by kernel_rfl) (by kernel_rfl) (by kernel_rfl) (by kernel_rfl) (by kernel_rfl) rfl (fun _ _ _ h => h) (Or.inl ⟨rfl, ?_⟩) S0 ?_
          rotate_left
          · intro W hW; go_simp; try with_reducible rfl
          simp only [put_list, List.set]
          refine Drawn.only 5 (by kernel_rfl) rfl rfl (fun K hK => ?_)
          go_simp
          refine C1.out.mono ?_
          rintro e V9 ⟨rfl, h9⟩
          have H10 := Lib.hid h9
          have S1 : V9.cell? ⟨gm, j, none⟩ = some (.int .i64 (lm : Nat)) := marks_at h9.it (by omega) HX.out.2.2.1
          refine hK _ _ (fun _ _ => S1) ?_
          clear hK K h9 C1 S0
          have S0 := S1
          clear S1
          try simp only [put_list, List.set]
          refine Drawn.take 6 (some 85) (v := ?_) rfl rfl (by kernel_rfl) (by kernel_rfl) (by kernel_rfl) (by kernel_rfl) (by kernel_rfl) rfl (fun _ _ _ h => h) (Or.inl ⟨rfl, ?_⟩) S0 ?_
          rotate_left
          · intro W hW; go_simp; try with_reducible rfl
          simp only [put_list, List.set]
          refine Drawn.take 7 (some 86) (v := ?_) rfl rfl (by kernel_rfl) (by kernel_rfl) (by kernel_rfl) (by kernel_rfl) (by kernel_rfl) rfl (fun _ _ _ h => h) (Or.inl ⟨rfl, ?_⟩) S0 ?_
          rotate_left
          · intro W hW; go_simp; try with_reducible rfl
          simp only [put_list, List.set]
          refine Drawn.take 8 (some 87) (v := ?_) rfl rfl (by kernel_rfl) (by kernel_rfl) (by kernel_rfl) (by kernel_rfl) (by kernel_rfl) rfl (fun _ _ _ h => h) (Or.inl ⟨rfl, ?_⟩) S0 ?_
          rotate_left
          · intro W hW; go_simp; try with_reducible rfl
          simp only [put_list, List.set]
          refine Drawn.take 10 (some 89) (v := ?_) rfl rfl (by kernel_rfl) (by kernel_rfl) (by kernel_rfl) (by kernel_rfl) (by kernel_rfl) rfl (fun _ _ _ h => h) (Or.inl ⟨rfl, ?_⟩) S0 ?_
          rotate_left
          · intro W hW; go_simp; try with_reducible rfl
          simp only [put_list, List.set]
          refine Drawn.take 11 (some 90) (v := ?_) rfl rfl (by kernel_rfl) (by kernel_rfl) (by kernel_rfl) (by kernel_rfl) (by kernel_rfl) rfl (fun _ _ _ h => h) (Or.inl ⟨rfl, ?_⟩) S0 ?_
          rotate_left
          · intro W hW; go_simp; try with_reducible rfl
          simp only [put_list, List.set]
          refine Drawn.take 12 (some 91) (v := ?_) rfl rfl (by kernel_rfl) (by kernel_rfl) (by kernel_rfl) (by kernel_rfl) (by kernel_rfl) rfl (fun _ _ _ h => h) (Or.inl ⟨rfl, ?_⟩) S0 ?_
          rotate_left
          · intro W hW; go_simp; try with_reducible rfl
          simp only [put_list, List.set]
          refine Drawn.take 13 (some 92) (v := ?_) rfl rfl (by kernel_rfl) (by kernel_rfl) (by kernel_rfl) (by kernel_rfl) (by kernel_rfl) rfl (fun _ _ _ h => h) (Or.inl ⟨rfl, ?_⟩) S0 ?_
          rotate_left
          · intro W hW; go_simp; try with_reducible rfl
          simp only [put_list, List.set]
          have C2 := Lib.hid H10.out.mark
          rw [← HX.out.2.2.1] at C2
          unfold ptr at C2
          refine Drawn.only 9 (by kernel_rfl) rfl rfl (fun K hK => ?_)
          go_simp
          refine C2.out.mono ?_
          rintro e V10 ⟨rfl, rfl⟩
          refine hK _ _ (fun _ _ => S0) ?_
          clear hK K C2
          try simp only [put_list, List.set]
          refine Drawn.take 14 (some 93) (v := ?_) rfl rfl (by kernel_rfl) (by kernel_rfl) (by kernel_rfl) (by kernel_rfl) (by kernel_rfl) rfl (fun _ _ _ h => h) (Or.inl ⟨rfl, ?_⟩) S0 ?_
          rotate_left
          · intro W hW; go_simp; try with_reducible rfl
          simp only [put_list, List.set]
          refine Drawn.take 15 (some 94) (v := ?_) rfl rfl (by kernel_rfl) (by kernel_rfl) (by kernel_rfl) (by kernel_rfl) (by kernel_rfl) rfl (fun _ _ _ h => h) (Or.inl ⟨rfl, ?_⟩) S0 ?_
          rotate_left
          · intro W hW; go_simp; try with_reducible rfl
          simp only [put_list, List.set]
          refine Drawn.take 16 (some 95) (v := ?_) rfl rfl (by kernel_rfl) (by kernel_rfl) (by kernel_rfl) (by kernel_rfl) (by kernel_rfl) rfl (fun _ _ _ h => h) (Or.inl ⟨rfl, ?_⟩) S0 ?_
          rotate_left
          · intro W hW; go_simp; try with_reducible rfl
          simp only [put_list, List.set]
          refine Drawn.take 17 (some 96) (v := ?_) rfl rfl (by kernel_rfl) (by kernel_rfl) (by kernel_rfl) (by kernel_rfl) (by kernel_rfl) rfl (fun _ _ _ h => h) (Or.inl ⟨rfl, ?_⟩) S0 ?_
          rotate_left
          · intro W hW; go_simp; try with_reducible rfl
          simp only [put_list, List.set]
          refine Drawn.take 20 (some 99) (v := ?_) rfl rfl (by kernel_rfl) (by kernel_rfl) (by kernel_rfl) (by kernel_rfl) (by kernel_rfl) rfl (fun _ _ _ h => h) (Or.inl ⟨rfl, ?_⟩) S0 ?_
          rotate_left
          · intro W hW; go_simp; try with_reducible rfl
          simp only [put_list, List.set]
          refine Drawn.take 21 (some 100) (v := ?_) rfl rfl (by kernel_rfl) (by kernel_rfl) (by kernel_rfl) (by kernel_rfl) (by kernel_rfl) rfl (fun _ _ _ h => h) (Or.inl ⟨rfl, ?_⟩) S0 ?_
          rotate_left
          · intro W hW; go_simp; try with_reducible rfl
          simp only [put_list, List.set]
          refine Drawn.take 22 (some 101) (v := ?_) rfl rfl (by kernel_rfl) (by kernel_rfl) (by kernel_rfl) (by kernel_rfl) (by kernel_rfl) rfl (fun _ _ _ h => h) (Or.inl ⟨rfl, ?_⟩) S0 ?_
          rotate_left
          · intro W hW; go_simp; try with_reducible rfl
          simp only [put_list, List.set]
          refine Drawn.take 23 (some 102) (v := ?_) rfl rfl (by kernel_rfl) (by kernel_rfl) (by kernel_rfl) (by kernel_rfl) (by kernel_rfl) rfl (fun _ _ _ h => h) (Or.inl ⟨rfl, ?_⟩) S0 ?_
          rotate_left
          · intro W hW; go_simp; try with_reducible rfl
          simp only [put_list, List.set]
          refine Drawn.take 24 (some 103) (v := ?_) rfl rfl (by kernel_rfl) (by kernel_rfl) (by kernel_rfl) (by kernel_rfl) (by kernel_rfl) rfl (fun _ _ _ h => h) (Or.inl ⟨rfl, ?_⟩) S0 ?_
          rotate_left
          · intro W hW; go_simp; try with_reducible rfl
          simp only [put_list, List.set]
          have C3 := Lib.hid (H10.out.leaving (by decide))
          rw [leavP_len, ← HX.out.2.2.2.2] at C3
          unfold ptr at C3
          refine Drawn.only 18 (by kernel_rfl) rfl rfl (fun K hK => ?_)
          go_simp
          refine C3.out.mono ?_
          rintro e V11 ⟨v, rfl, hrow, _, h9⟩
          obtain ⟨av, cv, hv⟩ := own_any hrow
          subst hv
          have H11 := Lib.hid h9
          have S1 : V11.cell? ⟨gm, j, none⟩ = some (.int .i64 (lm : Nat)) := marks_at h9.it (by omega) HX.out.2.2.1
          refine hK _ _ (fun _ _ => S1) ?_
          clear hK K h9 C3 S0 hrow
          have S0 := S1
          clear S1
          try simp only [put_list, List.set]
          refine Drawn.take 19 (some 98) (v := ?_) rfl rfl (by kernel_rfl) (by kernel_rfl) (by kernel_rfl) (by kernel_rfl) (by kernel_rfl) rfl (fun _ _ _ h => h) (Or.inl ⟨rfl, ?_⟩) S0 ?_
          rotate_left
          · intro W hW; go_simp; try with_reducible rfl
          simp only [put_list, List.set]
          refine Drawn.take 25 (some 104) (v := ?_) rfl rfl (by kernel_rfl) (by kernel_rfl) (by kernel_rfl) (by kernel_rfl) (by kernel_rfl) rfl (fun _ _ _ h => h) (Or.inl ⟨rfl, ?_⟩) S0 ?_
          rotate_left
          · intro W hW; go_simp; try with_reducible rfl
          simp only [put_list, List.set]
          refine Drawn.take 26 (some 105) (v := ?_) rfl rfl (by kernel_rfl) (by kernel_rfl) (by kernel_rfl) (by kernel_rfl) (by kernel_rfl) rfl (fun _ _ _ h => h) (Or.inl ⟨rfl, ?_⟩) S0 ?_
          rotate_left
          · intro W hW; go_simp; try with_reducible rfl
          simp only [put_list, List.set]
          refine Drawn.done (by kernel_rfl) ?_ _
          clear S0 hq1 hq2 hw5
          go_wp2_with fail
          go_roundw
          case rel => exact ⟨j, Nat.le_of_succ_le HX.out.2.1, rfl, H11.out⟩
          case measure => simp [intOf]
end Go.Proofs.Ytginibphicmmmaa
