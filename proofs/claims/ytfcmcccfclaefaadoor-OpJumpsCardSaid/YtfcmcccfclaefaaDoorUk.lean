/- each; Jumps. -/
import Derived.Test.YtfcmcccfclaefaaDoorUj
import Derived.Test.YtfcmcccfclaefaaDoorUm
import Derived.Maps.AppendAt
namespace Go.Proofs.YtfcmcccfclaefaaDoor
open Go.RowKit Go.Maps Go.Shelf Mp

/-- One element of one cell more. -/
theorem wpList_append_one {ops : Array Oper} {rest : List Oper} {o : Oper} {a : Act} {Q : Exit → Act → World → Prop} {W : World} (hgd : o.guard = none) (s x : Operand) (ty e : TypeId)
    (ho : o.op = .call { callee := .builtin .append, args := #[s, x], argTypes := #[ty, ty] }) (hu : Tryd.prog.underlying ty = some (.slice e)) (z : Value) (bytes : Nat)
    (hinfo : (Tryd.prog.info? e).map (fun i => (i.zero, i.size, i.bytes)) = some (some z, 1, bytes)) (hz1 : z.cells.size = 1) (hby : bytes ≤ 48)
    (B : Nat) (v : Value) (n : Nat) (xs : List Value) (hs : a.eval s = v) (hown : W.ownsRow B e 1 v n xs) (q : Nat) (u : Value) (h1 : u.oneCell' = true) (hx : a.eval x = .slice (some ⟨q, 0, none⟩) 1 1) (hz : W.heap[q]? = some (.cells #[u] e (0, 0)))
    (hB : B ≤ W.heap.size) (hn : n < 1000000000)
    (hK : ∀ v' W', W'.ownsRow B e 1 v' (n + 1) (xs ++ [u]) → W.grownBy W' v.ownBlock → (v'.ownBlock = v.ownBlock ∨ v'.ownBlock = some W.heap.size) → wpList Tryd.prog ops Q rest (a.put o.dst v') W') : wpList Tryd.prog ops Q (o :: rest) a W := by
  obtain ⟨i0, hi, hz0, hzz, hz2⟩ := info_parts hinfo
  refine wpList_append_own_at W hgd s x ty ho B e i0 z 1 bytes hu hi hz0 hzz hz2 hz1 (by omega) v n xs hs hown ⟨q, 0, none⟩ 1 1 [u] hx rfl ?_ ?_ (by unfold maxLen; omega) ?_ hB fun v' W' h2 h3 _ h5 => hK v' W' h2 h3 h5
  · intro j u' hj
    have e : (⟨q, 0, none⟩ : Addr).add j = ⟨q, j, none⟩ := by unfold Addr.add; split <;> simp_all
    rw [e, cell_of hz]
    simpa using hj
  · intro u' hu'
    obtain rfl : u' = u := by simpa using hu'
    exact h1
  · exact Nat.le_trans (Nat.mul_le_mul_left (n + 1) hby) (by omega)

theorem wp_append_one {o : Oper} {a : Act} {K : Act → World → Prop} {Q : Exit → Act → World → Prop} {W : World} (s x : Operand) (ty e : TypeId)
    (ho : o.op = .call { callee := .builtin .append, args := #[s, x], argTypes := #[ty, ty] }) (hu : Tryd.prog.underlying ty = some (.slice e)) (z : Value) (bytes : Nat)
    (hinfo : (Tryd.prog.info? e).map (fun i => (i.zero, i.size, i.bytes)) = some (some z, 1, bytes)) (hz1 : z.cells.size = 1) (hby : bytes ≤ 48)
    (B : Nat) (v : Value) (n : Nat) (xs : List Value) (hs : a.eval s = v) (hown : W.ownsRow B e 1 v n xs) (q : Nat) (u : Value) (h1 : u.oneCell' = true) (hx : a.eval x = .slice (some ⟨q, 0, none⟩) 1 1) (hz : W.heap[q]? = some (.cells #[u] e (0, 0)))
    (hB : B ≤ W.heap.size) (hn : n < 1000000000)
    (hK : ∀ v' W', W'.ownsRow B e 1 v' (n + 1) (xs ++ [u]) → W.grownBy W' v.ownBlock → (v'.ownBlock = v.ownBlock ∨ v'.ownBlock = some W.heap.size) → K (a.put o.dst v') W') : Oper.wp Tryd.prog o a W K Q := by
  obtain ⟨i0, hi, hz0, hzz, hz2⟩ := info_parts hinfo
  obtain ⟨v', w', hr, h2, h3, h4, h5⟩ := run_append_own_at (P := Tryd.prog) W B ty o.type e i0 z 1 bytes hu hi hz0 hzz hz2 hz1 (by omega) v n xs hown ⟨q, 0, none⟩ 1 1 [u] rfl (by
    intro j u' hj
    have e : (⟨q, 0, none⟩ : Addr).add j = ⟨q, j, none⟩ := by unfold Addr.add; split <;> simp_all
    rw [e, cell_of hz]
    simpa using hj) (by
    intro u' hu'
    obtain rfl : u' = u := by simpa using hu'
    exact h1) (by unfold maxLen; omega) (Nat.le_trans (Nat.mul_le_mul_left (n + 1) hby) (by omega)) hB
  unfold Oper.wp execOp
  simp only [ho, resolve, invoke, builtin, Sem.run_bind, Sem.run_pure, Result.andThen_ok, List.map_toArray, List.map_cons, List.map_nil, hs, hx, hr]
  exact hK _ _ h2 h3 h5


/-- The instructions of a code, from its end's rest: the place of each, its bytes. -/
def insS (at_ : Nat) : Nm → List (Nat × Nm)
  | [] => []
  | c :: r => (at_, c :: r.take (pushN c.toNat)) :: insS (at_ + 1 + pushN c.toNat) (r.drop (pushN c.toNat))
termination_by l => l.length
decreasing_by simp; omega
theorem insS_cons (a : Nat) (c : UInt8) (r : Nm) : insS a (c :: r) = (a, c :: r.take (pushN c.toNat)) :: insS (a + 1 + pushN c.toNat) (r.drop (pushN c.toNat)) := by rw [insS]
theorem insS_nil (a : Nat) : insS a [] = [] := by rw [insS]
theorem drop_at {l : Nm} {i : Nat} {c : UInt8} (h : l[i]? = some c) : l.drop i = c :: l.drop (i + 1) := by
  obtain ⟨hi, rfl⟩ := List.getElem?_eq_some_iff.1 h
  exact List.drop_eq_getElem_cons hi
theorem str_slice {l : Nm} {i : Nat} {c : UInt8} (h : l[i]? = some c) (k : Nat) : (str l).extract i (min (i + 1 + k) l.length) = str (c :: (l.drop (i + 1)).take k) := by
  have hi := (List.getElem?_eq_some_iff.1 h).1
  apply ByteArray.ext
  simp only [str, ByteArray.data_extract, List.extract_toArray, Array.mk.injEq]
  rw [List.extract_eq_take_drop, drop_at h]
  rw [show min (i + 1 + k) l.length - i = (min (i + 1 + k) l.length - i - 1) + 1 by omega, List.take_succ_cons]
  congr 1
  have e : (l.drop (i + 1)).length = l.length - (i + 1) := List.length_drop
  by_cases hk : i + 1 + k ≤ l.length
  · rw [Nat.min_eq_left hk]
    congr 1
    omega
  · rw [Nat.min_eq_right (by omega), List.take_of_length_le (by omega), List.take_of_length_le (by omega)]
theorem insS_step {l : Nm} {i : Nat} {c : UInt8} (h : l[i]? = some c) : insS i (l.drop i) = (i, c :: (l.drop (i + 1)).take (pushN c.toNat)) :: insS (min (i + 1 + pushN c.toNat) l.length) (l.drop (min (i + 1 + pushN c.toNat) l.length)) := by
  have hi := (List.getElem?_eq_some_iff.1 h).1
  rw [drop_at h, insS_cons, List.drop_drop]
  congr 1
  by_cases h : i + 1 + pushN c.toNat ≤ l.length
  · rw [Nat.min_eq_left h]
  · rw [Nat.min_eq_right (by omega), List.drop_of_length_le (Nat.le_refl _), List.drop_of_length_le (by omega), insS_nil, insS_nil]
theorem run_min2 {ops : Array Oper} {rest : List Oper} {o : Oper} {a : Act} {Q : Exit → Act → World → Prop} {W : World} (hgd : o.guard = none) (x y : Operand) (ts : Array TypeId)
    (ho : o.op = .call { callee := .builtin .min, args := #[x, y], argTypes := ts }) (i j : Int) (hx : a.eval x = .int .i64 i) (hy : a.eval y = .int .i64 j)
    (h : ∀ q : Int, q = (if j < i then j else i) → wpList Tryd.prog ops Q rest (a.put o.dst (.int .i64 q)) W) : wpList Tryd.prog ops Q (o :: rest) a W := by
  refine wpList_plain hgd fun K hK => ?_
  have hr := run_min_int2 (P := Tryd.prog) (w := W) ts o.type .i64 .i64 i j
  unfold Oper.wp execOp
  simp only [ho, resolve, invoke, builtin, Sem.run_bind, Sem.run_pure, Result.andThen_ok, List.map_toArray, List.map_cons, List.map_nil, hx, hy, hr]
  exact hK _ _ (h _ rfl)
set_option maxRecDepth 100000 in
set_option maxHeartbeats 4000000 in
theorem each_c (l : Nm) (hl : l.length ≤ 1000) (fn : FuncId) (ca : Array Value) (hen : ∀ args w, (callFunc fn args).run Tryd.prog w = .ok (.enter fn args) w) (J : List (Nat × Nm) → World → Prop) (W : World) (h0 : J [] W)
    (hc : ∀ p a c r V, (c :: r).length ≤ 1000 → p.length < 1000 → J p V → Calls Tryd.prog fn (#[.int .i64 (a : Nat), .string (str (c :: r))] ++ ca) V fun e V' => e = .returned (.tuple #[]) ∧ J (p ++ [(a, c :: r)]) V') :
    Calls Tryd.prog 22 #[.string (str l), .func (.func fn) #[] ca] W fun e W' => e = .returned (.tuple #[]) ∧ J (insS 0 l) W' := by
  have hsz : (str l).size = l.length := str_size l
  obtain ⟨s, hs⟩ : ∃ s, s = str l := ⟨_, rfl⟩
  obtain ⟨N, hN⟩ : ∃ N, N = l.length := ⟨_, rfl⟩
  rw [← hs, ← hN] at hsz
  rw [← hs]
  have HS := Lib.hid (And.intro hs (And.intro hN (And.intro h0 hc)))
  have hN2 : (N : Int) ≤ 1000 := by omega
  clear hs hN hl h0 hc
  go_enter Tryd.func22, Tryd.ntmps22
  go_wp2_with fail
  go_loopw [4] (fun iv wr => ∃ (i : Nat) (p : List (Nat × Nm)), i ≤ N ∧ iv = .int .i64 (i : Nat) ∧ p.length ≤ i ∧ p ++ insS i (l.drop i) = insS 0 l ∧ J p wr) (fun iv _ => N - (intOf iv).toNat)
  case atStart => exact ⟨0, [], Nat.zero_le _, rfl, Nat.le_refl _, rfl, HS.out.2.2.1⟩
  case round =>
    obtain ⟨i, p, hi, rfl, hp, he, hj⟩ := hrel
    have HX := Lib.hid (And.intro hp (And.intro he hj))
    clear hp he hj
    by_cases hlt : i < N
    · have hlt2 : (i : Int) < (N : Int) := by omega
      have hq : i < s.size := by omega
      obtain ⟨c, hcl⟩ : ∃ c, l[i]? = some c := ⟨_, List.getElem?_eq_getElem (by have := HS.out.2.1; omega)⟩
      have hq2 : ∀ (h : i < s.size), s[i]'h = c := by
        obtain ⟨rfl, _⟩ := HS.out
        intro h
        rw [str_at h]
        exact (List.getElem?_eq_some_iff.1 hcl).2
      have P := Lib.hid (fun V => push_calls c.toNat V)
      have hpl := pushN_le c.toNat
      have hex := str_slice hcl (pushN c.toNat)
      rw [← HS.out.1, ← HS.out.2.1] at hex
      have hst := insS_step hcl
      rw [← HS.out.2.1] at hst
      have HT := Lib.hid hst
      generalize pushN c.toNat = k at *
      generalize pushB c.toNat = kb at *
      have HC := Lib.hid hcl
      clear hst hcl
      obtain ⟨j, hj⟩ : ∃ j, j = min (i + 1 + k) N := ⟨_, rfl⟩
      rw [← hj] at hex HT
      have hjN : (j : Int) ≤ (N : Int) := by omega
      have hij : (i : Int) + 1 ≤ (j : Int) := by omega
      have HJ := Lib.hid hj
      have hm : ∀ q : Int, q = (if (N : Int) < (i : Int) + 1 + (k : Int) then (N : Int) else (i : Int) + 1 + (k : Int)) → q = (j : Int) := fun q hq => by
        rw [hq, hj]
        split <;> omega
      have HM := Lib.hid hm
      clear hm hj
      go_wp2_with (first | (go_at_call 13; refine (P.out _).mono ?_; rintro e w1 ⟨rfl, rfl⟩) | (refine run_min2 (by rfl) _ _ _ (by rfl) _ _ (by rfl) (by rfl) ?_; intro q hq0; obtain rfl := HM.out q hq0; clear hq0))
      refine (HS.out.2.2.2 p i c _ wr (by rw [List.length_cons, List.length_take]; omega) (by have := HX.out.1; omega) HX.out.2.2).mono ?_
      rintro e V2 ⟨rfl, h2⟩
      have he := HX.out.2.1
      rw [HT.out] at he
      have H2 := Lib.hid (And.intro h2 (show (p ++ [(i, c :: List.take k (List.drop (i + 1) l))]) ++ insS j (List.drop j l) = insS 0 l by rw [List.append_assoc]; exact he))
      clear h2 he
      have hj2 : j ≤ N := by omega
      have hp2 : (p ++ [(i, c :: List.take k (List.drop (i + 1) l))]).length ≤ j := by rw [List.length_append, List.length_singleton]; have := HX.out.1; omega
      generalize p ++ [(i, c :: List.take k (List.drop (i + 1) l))] = p2 at *
      go_wp2_with fail
      go_roundw
      case rel => exact ⟨j, p2, hj2, rfl, hp2, H2.out.2, H2.out.1⟩
      case measure => simp [intOf]; omega
    · obtain rfl : i = N := by omega
      go_wp2_with fail
      go_end0
      have he := HX.out.2.1
      rw [List.drop_of_length_le (by have := HS.out.2.1; omega), insS_nil, List.append_nil] at he
      rw [← he]
      exact ⟨rfl, HX.out.2.2⟩
/-- A box, in W, that holds a row of blocks that came since; nothing else of W has turned. -/
structure Acc (st et : TypeId) (W : World) (q : Nat) (xs : List Value) (V : World) : Prop where
  own : ∃ v, V.heap[q]? = some (.cells #[v] st (0, 0)) ∧ V.ownsRow W.heap.size et 1 v xs.length xs
  chg : Chg (fun k => k = q) (fun k => k = q) W V
theorem Acc.call {st et : TypeId} {W V V' : World} {q : Nat} {xs : List Value} (h : Acc st et W q xs V) (hb : Below V.heap.size V V') : Acc st et W q xs V' := by
  obtain ⟨⟨v, h1, h2⟩, h4⟩ := h
  exact ⟨⟨v, (hb.block _ (lt_of h1)).trans h1, own_keep h2 fun k hk => hb.block _ (World.ownsRow.lt h2 k hk).2⟩, h4.trans (Chg.of_below hb)⟩
theorem infoInt : (Tryd.prog.info? 3).map (fun i => (i.zero, i.size, i.bytes)) = some (some (.int .i64 0), 1, 8) := by kernel_rfl
theorem infoStr : (Tryd.prog.info? 9).map (fun i => (i.zero, i.size, i.bytes)) = some (some (.string ⟨#[]⟩), 1, 16) := by kernel_rfl
theorem Acc.more {st et : TypeId} {W V V1 V2 : World} {q : Nat} {xs : List Value} {v v' : Value} {o : Obj} {u : Value} (hne : st ≠ et) (h : Acc st et W q xs V) (h0 : V.heap[q]? = some (.cells #[v] st (0, 0))) (h1 : V.ownsRow W.heap.size et 1 v xs.length xs) (e1 : V1 = V.alloc o)
    (h2 : V2.ownsRow W.heap.size et 1 v' (xs.length + 1) (xs ++ [u])) (h3 : V1.grownBy V2 v.ownBlock) (h4 : v'.ownBlock = v.ownBlock ∨ v'.ownBlock = some V1.heap.size) : Acc st et W q (xs ++ [u]) (V2.setCell ⟨q, 0, none⟩ v') ∧ V2.heap[q]? = some (.cells #[v] st (0, 0)) := by
  subst e1
  have hq : q < V.heap.size := lt_of h0
  have hvq : v.ownBlock ≠ some q := fun e => by
    obtain ⟨cs, h6⟩ := own_block h1 e
    rw [h0] at h6; injection h6 with h6; injection h6 with _ h6; exact hne h6
  have hq2 : V2.heap[q]? = some (.cells #[v] st (0, 0)) := (h3.block q (by rw [alloc_size]; omega) (fun e => hvq e.symm)).trans ((Below.heap_alloc V o q hq).trans h0)
  have hvq2 : v'.ownBlock ≠ some q := by
    rcases h4 with e | e
    · rw [e]; exact hvq
    · rw [e]; intro e2; injection e2 with e2; rw [alloc_size] at e2; omega
  have hc := h.chg
  refine ⟨⟨⟨v', by simpa using heap_setCell_same _ _ 0 _ _ v' hq2, ?_⟩, ?_⟩, hq2⟩
  · rw [List.length_append, List.length_singleton]
    exact own_keep h2 fun k hk => heap_setCell_other _ _ _ _ (fun e => hvq2 (by rw [hk, e]))
  · refine ⟨h3.os.trans hc.os, h3.tape.trans hc.tape, h3.output.trans hc.output, ?_, fun k hk hkq => ?_, fun _ hk => Or.inl hk⟩
    · have h7 := h3.size
      rw [alloc_size] at h7
      have h8 := hc.size
      simp only [World.setCell, Array.size_modify]
      omega
    · have h8 := hc.size
      exact (heap_setCell_other _ _ _ _ hkq).trans ((h3.block k (by rw [alloc_size]; omega) (fun e => by have := (World.ownsRow.lt h1 k e.symm).1; omega)).trans ((Below.heap_alloc V o k (by omega)).trans (hc.block k hk hkq)))
/-! Jumps. -/
def rowI (l : List Nat) : List Value := l.map fun n => .int .i64 (n : Nat)
def isDest (i : Nat × Nm) : Bool := i.2.head? == some 91
def destsOf (p : List (Nat × Nm)) : List Nat := (p.filter isDest).map (·.1)
theorem destsOf_snoc (p : List (Nat × Nm)) (i : Nat × Nm) : destsOf (p ++ [i]) = if isDest i then destsOf p ++ [i.1] else destsOf p := by
  unfold destsOf
  rw [List.filter_append]
  by_cases h : isDest i
  · rw [if_pos h]; simp [h]
  · rw [if_neg h]; simp [h]
theorem destsOf_len (p : List (Nat × Nm)) : (destsOf p).length ≤ p.length := by
  unfold destsOf
  rw [List.length_map]
  exact List.length_filter_le _ _
set_option maxRecDepth 100000 in
set_option maxHeartbeats 4000000 in
theorem jump1_c {W V : World} {q : Nat} {xs : List Nat} (h : Acc 36 3 W q (rowI xs) V) (hx : xs.length < 1000) (a : Nat) (c : UInt8) (r : Nm) :
    Calls Tryd.prog 23 #[.int .i64 (a : Nat), .string (str (c :: r)), .pointer (some ⟨q, 0, none⟩)] V fun e V' => e = .returned (.tuple #[]) ∧ Acc 36 3 W q (rowI (if c = 91 then xs ++ [a] else xs)) V' := by
  have hs0 : 0 < (str (c :: r)).size := by rw [str_size]; simp
  obtain ⟨s, hs, hq⟩ : ∃ s, s = str (c :: r) ∧ ∀ (h : 0 < s.size), s[0]'h = c := ⟨_, rfl, fun _ => rfl⟩
  rw [← hs]
  rw [← hs] at hs0
  clear hs
  by_cases hc : c = 91
  · rw [if_pos hc]
    have hc1 : (c.toNat : Int) = 91 := by rw [hc]; rfl
    have hc2 : ((c.toNat : Int) == 91) = true := by rw [hc1]; rfl
    obtain ⟨v, h0, h1⟩ := h.own
    have c0 : V.cell? ⟨q, 0, none⟩ = some v := cell_of h0 0
    have hl : (rowI xs).length = xs.length := by simp [rowI]
    have e9 : rowI (xs ++ [a]) = rowI xs ++ [.int .i64 (a : Nat)] := by simp [rowI]
    rw [e9]
    generalize rowI xs = ys at *
    have hn : ys.length < 1000 := by omega
    have HH := Lib.hid (And.intro h (And.intro h0 (And.intro h1 hn)))
    have HA := Lib.hid ((Below.refl V.heap.size V).alloc (Nat.le_refl _) (.cells #[.int .i64 (a : Nat)] 3))
    obtain ⟨sa, sc, hv⟩ := own_any h1
    obtain ⟨n, hn⟩ : ∃ n, n = ys.length := ⟨_, rfl⟩
    rw [← hn] at hv
    have HN := Lib.hid (And.intro hn hv)
    rw [hv] at c0
    clear h h0 h1 hl hx hc hn hv e9
    go_enter Tryd.func23, Tryd.ntmps23
    go_wp2_with (at_builtin; refine wpList_append_one (by rfl) _ _ 36 3 (by rfl) Tryd.underlying36 (.int .i64 0) 8 infoInt (by decide) (by decide) W.heap.size v ys.length ys (by rw [HN.out.2]; rfl) (own_keep HH.out.2.2.1 fun k hk => HA.out.block _ (World.ownsRow.lt HH.out.2.2.1 k hk).2) V.heap.size (.int .i64 (a : Nat)) (by rfl) (by rfl) (heap_alloc_new _ _) (by rw [alloc_size]; have := HH.out.1.chg.size; omega) (Nat.lt_trans HH.out.2.2.2 (by decide)) ?_; intro v2 V2 h2 h3 h4; obtain ⟨h5, h6⟩ := Acc.more (by decide) HH.out.1 HH.out.2.1 HH.out.2.2.1 rfl h2 h3 h4; have H5 := Lib.hid h5; have f0 := free_of h6 0; have k0 := cell_of h6 0; obtain ⟨sa2, sc2, hv2⟩ := own_any h2; subst hv2; clear h2 h3 h4 h5 h6)
    go_end0
    exact ⟨rfl, H5.out⟩
  · rw [if_neg hc]
    have hc1 : ¬ (c.toNat : Int) = 91 := fun e => hc (UInt8.toNat_inj.1 (show c.toNat = 91 by omega))
    have hc2 : ((c.toNat : Int) == 91) = false := by simpa using hc1
    have HH := Lib.hid h
    clear h hc
    go_enter Tryd.func23, Tryd.ntmps23
    go_wp2_with fail
    go_end0
    exact ⟨rfl, HH.out⟩
theorem Acc.start {st et : TypeId} {W : World} {q : Nat} (h : W.heap[q]? = some (.cells #[.slice none 0 0] st (0, 0))) : Acc st et W q [] W :=
  ⟨⟨_, h, ⟨rfl, Or.inl ⟨rfl, rfl⟩⟩⟩, Chg.refl _ _⟩
theorem own_base {w : World} {B B' z : Nat} {e : TypeId} {v : Value} {n : Nat} {xs : List Value} (h : w.ownsRow B e z v n xs) (hB : B' ≤ B) : w.ownsRow B' e z v n xs := by
  refine ⟨h.1, ?_⟩
  rcases h.2 with h0 | ⟨g, cap, cur, rfl, hbg, hg, rest⟩
  · exact Or.inl h0
  · exact Or.inr ⟨g, cap, cur, rfl, Nat.le_trans hB hbg, hg, rest⟩
theorem enter_jump1 (args : Array Value) (w : World) : (callFunc 23 args).run Tryd.prog w = .ok (.enter 23 args) w := enters_of Tryd.func23 (by kernel_rfl) rfl args w
def RowR2 (et : TypeId) (xs : List Value) (W : World) (e : Ending) (W' : World) : Prop := ∃ v, e = .returned v ∧ W'.ownsRow W.heap.size et 1 v xs.length xs ∧ Below W.heap.size W W'
set_option maxRecDepth 100000 in
set_option maxHeartbeats 4000000 in
theorem jumps_c (l : Nm) (hl : l.length ≤ 1000) (W : World) : Calls Tryd.prog 15 #[.string (str l)] W (RowR2 3 (rowI (destsOf (insS 0 l))) W) := by
  have C := Lib.hid (each_c l hl 23 #[.pointer (some ⟨W.heap.size, 0, none⟩)] enter_jump1 (fun p V => Acc 36 3 (W.alloc (.cells #[.slice none 0 0] 36)) W.heap.size (rowI (destsOf p)) V) (W.alloc (.cells #[.slice none 0 0] 36)) (Acc.start (heap_alloc_new _ _))
    (fun p a c r V _ hp h => by
      have h1 := jump1_c h (by have := destsOf_len p; omega) a c r
      rw [destsOf_snoc]
      have e : (if isDest (a, c :: r) = true then destsOf p ++ [(a, c :: r).1] else destsOf p) = if c = 91 then destsOf p ++ [a] else destsOf p := by
        by_cases hc : c = 91
        · rw [if_pos hc, if_pos (by rw [hc]; rfl)]
        · rw [if_neg hc, if_neg (by simp [isDest, hc])]
      rw [e]
      exact h1))
  generalize rowI (destsOf (insS 0 l)) = ys at C ⊢
  clear hl
  go_enter Tryd.func15, Tryd.ntmps15
  go_wp2_with fail
  refine C.out.mono ?_
  rintro e V1 ⟨rfl, h⟩
  obtain ⟨v, h1, h2⟩ := h.own
  have k0 : V1.cell? ⟨W.heap.size, 0, none⟩ = some v := cell_of h1 0
  have H := Lib.hid (And.intro (own_base h2 (B' := W.heap.size) (by rw [alloc_size]; omega)) (chg_box ((Below.refl _ W).alloc (Nat.le_refl _) _) h.chg (Nat.le_refl _)))
  clear h h1 h2 C
  go_wp2_with fail
  go_ret
  exact ⟨_, rfl, H.out⟩
end Go.Proofs.YtfcmcccfclaefaaDoor
