/- Lost: the disk that is found behind a crash. -/
import Derived.Test.YtialfpkmcafkmaaGreatDki
import Derived.Sort.KeysCollected
namespace Go.Proofs.YtialfpkmcafkmaaGreat
open Go.RowKit Go.Maps Go.WideElems Go.ChangeMaps Go.MapKept Go.WideMaps
theorem wpList_max2 {ops : Array Oper} {rest : List Oper} {o : Oper} {a : Act} {Q : Exit → Act → World → Prop} {W : World} (hgd : o.guard = none) (x y : Operand) (ts : Array TypeId)
    (ho : o.op = .call { callee := .builtin .max, args := #[x, y], argTypes := ts }) (i j : Int) (hx : a.eval x = .int .i64 i) (hy : a.eval y = .int .i64 j)
    (h : ∀ q : Int, q = (if j > i then j else i) → wpList Tryz.prog ops Q rest (a.put o.dst (.int .i64 q)) W) : wpList Tryz.prog ops Q (o :: rest) a W := by
  refine wpList_plain hgd fun K hK => ?_
  have hr := run_max_int2 (P := Tryz.prog) (w := W) ts o.type .i64 .i64 i j
  unfold Oper.wp execOp
  simp only [ho, resolve, invoke, builtin, Sem.run_bind, Sem.run_pure, Result.andThen_ok, List.map_toArray, List.map_cons, List.map_nil, hx, hy, hr]
  exact hK _ _ (h _ rfl)
theorem wpList_min2 {ops : Array Oper} {rest : List Oper} {o : Oper} {a : Act} {Q : Exit → Act → World → Prop} {W : World} (hgd : o.guard = none) (x y : Operand) (ts : Array TypeId)
    (ho : o.op = .call { callee := .builtin .min, args := #[x, y], argTypes := ts }) (i j : Int) (hx : a.eval x = .int .i64 i) (hy : a.eval y = .int .i64 j)
    (h : ∀ q : Int, q = (if j < i then j else i) → wpList Tryz.prog ops Q rest (a.put o.dst (.int .i64 q)) W) : wpList Tryz.prog ops Q (o :: rest) a W := by
  refine wpList_plain hgd fun K hK => ?_
  have hr := run_min_int2 (P := Tryz.prog) (w := W) ts o.type .i64 .i64 i j
  unfold Oper.wp execOp
  simp only [ho, resolve, invoke, builtin, Sem.run_bind, Sem.run_pure, Result.andThen_ok, List.map_toArray, List.map_cons, List.map_nil, hx, hy, hr]
  exact hK _ _ (h _ rfl)
theorem torn_nat {keep q t : Int} {u : Nat} (hq : q = if 0 > keep then 0 else keep) (ht : t = if (u : Int) < q then (u : Int) else q) : ∃ n : Nat, t = (n : Int) ∧ n = tornN keep u ∧ n ≤ u := by
  refine ⟨tornN keep u, ?_, rfl, Nat.min_le_right _ _⟩
  subst hq ht
  exact torn_is keep u
theorem ranges_keep {W W' : World} {P : Program} {k : TypeId} {R : Value → Option (DataW Unit × List MemPlace)} {b r n : Nat} {D : DataW Unit} {left : Lit → Bool} {cnt : Nat} (h : W.ranges P k R b r n D left cnt) (hb : W'.heap[b]? = W.heap[b]?) (hr : W'.heap[r]? = W.heap[r]?) : W'.ranges P k R b r n D left cnt := by
  obtain ⟨es, clock, since, seen, c0, h1, h2, h3, h4, h5, h6⟩ := h
  exact ⟨es, clock, since, seen, c0, hb.trans h1, h2, h3, h4, hr.trans h5, h6⟩
/-- How many bytes of a file are found. -/
def keptN (keep : Int) (f : Fl) : Nat := f.syn + tornN keep (f.bs.length - f.syn)
theorem kept_le {keep : Int} {f : Fl} (h : f.syn ≤ f.bs.length) : keptN keep f ≤ f.bs.length := by unfold keptN tornN; omega
/-- What of the files of x is found on y, but for those still to come. -/
def Found (x y : Dk) (keep : Int) (left : Lit → Bool) : Prop :=
  ∀ s, (x.fs s = none ∨ left (.string s) = true → y.fs s = none) ∧ ∀ f, x.fs s = some f → left (.string s) = false → ∃ g, y.fs s = some g ∧ g.bs = f.bs.take (keptN keep f) ∧ g.syn = g.bs.length
/-- S tells how many bytes are found of those that are no longer to come. -/
def SumOf (x : Dk) (keep : Int) (S : (Lit → Bool) → Int) : Prop :=
  (∀ left : Lit → Bool, (∀ s f, x.fs s = some f → left (.string s) = true) → S left = 0) ∧
    ∀ (left : Lit → Bool) s f, x.fs s = some f → left (.string s) = true → S (fun z => left z && !z.sameKey (.string s)) = S left + (keptN keep f : Nat)
structure LI (x : Dk) (keep : Int) (B : Nat) (D : DataW Unit) (r yd : Nat) (W wr : World) (left : Lit → Bool) (cnt : Nat) (y : Dk) : Prop where
  rg : wr.ranges Tryz.prog 9 ptrElem x.m r x.n D left cnt
  yat : DiskAt y wr
  d : y.d = yd
  nr : ¬ y.ft r
  hr : W.heap.size ≤ r
  chg : Chg (fun _ => False) y.ft W wr
  fine : Fine y
  room : y.room = x.room
  dead : y.dead = false
  after : y.after = -1
  found : Found x y keep left
  used : y.used + (B : Int) * cnt ≤ (B : Int) * x.n
  n : y.n + cnt ≤ x.n
  sum : ∀ S, SumOf x keep S → y.used = S left
  torn : y.torn = 0
/-- What is known of the disk of which something is lost. -/
structure Lo (x : Dk) (B : Nat) (W : World) (D : DataW Unit) : Prop where
  at_ : DiskAt x W
  fine : Fine x
  own : W.ownsMap Tryz.prog 9 ptrElem x.m x.n D
  get : ∀ s, D.atKey (.string s) .nil = encF (x.fs s)
  has : ∀ s, Maps.has D (.string s) = (x.fs s).isSome
  file : ∀ s f, x.fs s = some f → f.bs.length ≤ B ∧ f.syn ≤ f.bs.length
  small : B * x.n ≤ 100000000
section
variable {x : Dk} {B : Nat} {W wr : World} {D : DataW Unit} {keep : Int} {r yd cnt : Nat} {left : Lit → Bool} {y : Dk}
theorem Lo.far (h : Lo x B W D) (hi : LI x keep B D r yd W wr left cnt y) {k : Nat} (hk : x.ft k) : k < W.heap.size ∧ wr.heap[k]? = W.heap[k]? ∧ ¬ y.ft k ∧ k ≠ r := by
  have h1 := h.at_.lt hk
  exact ⟨h1, hi.chg.block k h1 (fun h => h), fun hy => (hi.chg.new k hy).elim (fun h => h) (by omega), by have := hi.hr; omega⟩
theorem Lo.xat (h : Lo x B W D) (hi : LI x keep B D r yd W wr left cnt y) : DiskAt x wr := h.at_.kept fun _ hk => (h.far hi hk).2.1
/-- What the step of the round finds. -/
theorem Lo.next (h : Lo x B W D) {key : ByteArray} {c : Option Addr} {kl : Lit} {z : DataW Unit × List MemPlace} (hkey : keyOf Tryz.prog 9 (.string key) = some kl) (hz : ptrElem (.pointer c) = some z) (hat : ∀ zd, D.atKey kl zd = z.1) :
    ∃ s f, key = str s ∧ kl = .string s ∧ s.length ≤ maxLen ∧ x.fs s = some f ∧ c = some ⟨f.b, 0, none⟩ := by
  obtain ⟨s, e1, rfl, hl⟩ := Maps.keyOf_str Tryz.underlying9 hkey
  have hhas := Maps.has_true_of_atKey hat
  rw [h.has s] at hhas
  obtain ⟨f, hf⟩ := Option.isSome_iff_exists.1 hhas
  have e2 := hat .nil
  rw [h.get s, hf] at e2
  refine ⟨s, f, by injection e1, rfl, hl, hf, ?_⟩
  rcases ptrElem_inv hz with ⟨e, rfl⟩ | ⟨b, e, rfl⟩
  · cases e2
  · have : f.b = b := by simp only [encF, DataW.lit.injEq, Lit.int.injEq, true_and] at e2; omega
    rw [this]; injection e
/-- .. and leaves. -/
theorem Lo.step (h : Lo x B W D) (hi : LI x keep B D r yd W wr left cnt y) {W3 : World} (hg : wr.grownBy W3 (some r)) : DiskAt x W3 ∧ DiskAt y W3 ∧ Chg (fun _ => False) y.ft W W3 := by
  have hk : ∀ k, k < wr.heap.size → k ≠ r → W3.heap[k]? = wr.heap[k]? := fun k h1 h2 => hg.block k h1 (by simpa using h2)
  have hx := h.xat hi
  refine ⟨hx.kept fun k h1 => hk k (hx.lt h1) (h.far hi h1).2.2.2, hi.yat.kept fun k h1 => hk k (hi.yat.lt h1) (fun e => hi.nr (e ▸ h1)), ⟨hg.os.trans hi.chg.os, hg.tape.trans hi.chg.tape, hg.output.trans hi.chg.output, Nat.le_trans hi.chg.size hg.size, fun k h1 _ => (hk k (Nat.lt_of_lt_of_le h1 hi.chg.size) (by have := hi.hr; omega)).trans (hi.chg.block k h1 (fun h => h)), hi.chg.new⟩⟩
/-- .. and what the round leaves behind it. -/
theorem Lo.round (h : Lo x B W D) (hi : LI x keep B D r yd W wr left cnt y) {W3 W5 : World} {cnt3 : Nat} {s : Nm} {f g : Fl} (hc3 : Chg (fun _ => False) y.ft W W3) (hrg : W3.ranges Tryz.prog 9 ptrElem x.m r x.n D (fun z => left z && !z.sameKey (.string s)) cnt3) (hlt : cnt3 < cnt)
    (hlk : left (.string s) = true) (hf : x.fs s = some f) (hg1 : g.bs = f.bs.take (keptN keep f)) (hg2 : g.syn = g.bs.length) (hy5 : DiskAt { y with n := y.n + 1, fs := updF y.fs s (some g), used := y.used + (keptN keep f : Nat) } W5)
    (hc5 : Chg y.ft (Dk.ft { y with n := y.n + 1, fs := updF y.fs s (some g), used := y.used + (keptN keep f : Nat) }) W3 W5) :
    LI x keep B D r yd W W5 (fun z => left z && !z.sameKey (.string s)) cnt3 { y with n := y.n + 1, fs := updF y.fs s (some g), used := y.used + (keptN keep f : Nat) } := by
  obtain ⟨hfb, hfs⟩ := h.file s f hf
  have hkn : keptN keep f ≤ B := Nat.le_trans (kept_le hfs) hfb
  have hr3 : r < W3.heap.size := by obtain ⟨_, _, _, _, _, _, _, _, _, hr, _⟩ := hrg; exact lt_of hr
  have hm3 : x.m < W3.heap.size := by obtain ⟨_, _, _, _, _, hr, _⟩ := hrg; exact lt_of hr
  have hmy := (h.far hi (k := x.m) (Or.inr (Or.inl rfl))).2.2.1
  have hbc : (B : Int) * (cnt3 : Int) + (B : Int) ≤ (B : Int) * (cnt : Int) := by
    have h1 : B * (cnt3 + 1) ≤ B * cnt := Nat.mul_le_mul_left _ hlt
    rw [Nat.mul_succ] at h1
    rw [← Int.natCast_mul, ← Int.natCast_mul, ← Int.natCast_add]; exact Int.ofNat_le.2 h1
  have hb0 : (0 : Int) ≤ (B : Int) * (cnt3 : Int) := Int.mul_nonneg (by omega) (by omega)
  have hsm : (B : Int) * (x.n : Int) ≤ 100000000 := by rw [← Int.natCast_mul]; exact Int.ofNat_le.2 h.small
  have hu := hi.used
  have hn := hi.n
  have hxn := h.fine.n
  refine ⟨ranges_keep hrg (hc5.block _ hm3 hmy) (hc5.block _ hr3 hi.nr), hy5, hi.d, fun hk => (hc5.new _ hk).elim hi.nr (by omega), hi.hr, hc3.trans hc5, ⟨hi.fine.room, ⟨?_, ?_⟩, hi.fine.after, ?_⟩, hi.room, hi.dead, hi.after, fun t => ⟨fun ht => ?_, fun f' hf' hl => ?_⟩, ?_, ?_, fun S hS => ?_, hi.torn⟩
  · have := hi.fine.used; show (0 : Int) ≤ y.used + (keptN keep f : Nat); omega
  · show y.used + ((keptN keep f : Nat) : Int) ≤ _; omega
  · show y.n + 1 < _; omega
  · show updF y.fs s (some g) t = none
    have hts : t ≠ s := by
      rintro rfl
      rcases ht with ht | ht
      · rw [hf] at ht; cases ht
      · rw [WideAt.sameKey_self (a := .string t) trivial] at ht; simp at ht
    rw [updF_other _ _ hts]
    refine (hi.found t).1 (ht.imp id fun ht => ?_)
    simp only [Bool.and_eq_true] at ht
    exact ht.1
  · show ∃ g', updF y.fs s (some g) t = some g' ∧ _
    by_cases hts : t = s
    · subst hts
      rw [hf] at hf'; cases hf'
      exact ⟨g, updF_same _ _ _, hg1, hg2⟩
    · rw [updF_other _ _ hts]
      refine (hi.found t).2 f' hf' ?_
      have hne : Lit.sameKey (.string t) (.string s) = false := Maps.sameKey_ne (by simpa using hts)
      rw [hne] at hl
      simpa using hl
  · show y.used + ((keptN keep f : Nat) : Int) + (B : Int) * (cnt3 : Int) ≤ _; omega
  · show y.n + 1 + cnt3 ≤ _; omega
  · show y.used + ((keptN keep f : Nat) : Int) = _; rw [hS.2 left s f hf hlk, hi.sum S hS]
theorem cut_sl {V : World} {l : List UInt8} {a : Option Addr} {c : Nat} (h : V.ownsRow 0 5 1 (.slice a l.length c) l.length (Lib.byteCells l)) (n : Nat) (hn : n ≤ l.length) (V' : World) :
    (Instr.slice 80 (.slice a l.length c) none (some (.int .i64 (n : Nat))) none).run Tryz.prog V' = .ok (.slice a n c) V' := by
  have hc : l.length ≤ c ∧ (a = none ∨ ∃ g, a = some ⟨g, 0, none⟩) := by
    rcases h.2 with ⟨e, h0⟩ | ⟨g, cap, cur, e, _, _, hn, _⟩
    · injection e with e1 e2 e3; exact ⟨by omega, Or.inl e1⟩
    · injection e with e1 e2 e3; exact ⟨by omega, Or.inr ⟨_, e1⟩⟩
  have he : (sizeOf (Tryz.prog.elem 80)).run Tryz.prog V' = .ok 1 V' := by kernel_rfl
  rw [run_slice_h V' 80 a l.length c (by rw [Tryz.underlying80]; kernel_rfl) .i64 (n : Int) (by omega) (by omega), he]
  simp only [Result.andThen_ok]
  unfold sliced
  rcases hc.2 with rfl | ⟨g, rfl⟩ <;> simp [Addr.add]
def Lost2 (x : Dk) (keep : Int) (B : Nat) (W : World) (yd : Nat) (W' : World) : Prop := ∃ y, y.d = yd ∧ DiskAt y W' ∧ Chg (fun _ => False) y.ft W W' ∧ Fine y ∧ y.room = x.room ∧ y.dead = false ∧ y.after = -1 ∧ Found x y keep (fun _ => false) ∧ y.used ≤ (B : Int) * x.n ∧ y.n ≤ x.n ∧ (∀ S, SumOf x keep S → y.used = S (fun _ => false)) ∧ y.torn = 0
set_option maxRecDepth 100000 in
set_option maxHeartbeats 2000000 in
theorem lost_c (h : Lo x B W D) (keep : Int) : Calls Tryz.prog 26 #[.pointer (some ⟨x.d, 0, none⟩), .int .i64 keep] W fun e W' => ∃ yd, e = .returned (.pointer (some ⟨yd, 0, none⟩)) ∧ Lost2 x keep B W yd W' := by
  obtain ⟨⟨c0, c1, _⟩, _⟩ := h.at_.reads
  have H := Lib.hid h
  clear h
  go_enter Tryz.func26, Tryz.ntmps26
  go_wp2_with fail
  refine (empty_c x.room W).mono ?_
  rintro e W1 ⟨rfl, h1, hc1⟩
  have H1 := Lib.hid (And.intro h1 hc1)
  have c1 : W1.cell? ⟨x.d, 1, none⟩ = some (.map (some x.m)) := (H.out.at_.below hc1.below).reads.1.2.1
  have ho1 : W1.ownsMap Tryz.prog 9 ptrElem x.m x.n D := ownsMap_keep H.out.own (hc1.block _ (H.out.at_.lt (Or.inr (Or.inl rfl))) (fun h => h))
  clear h1 hc1
  go_wp2_with (at_range; refine wpList_range_own _ rfl _ 66 rfl 9 79 law Tryz.underlying66 ptrElem x.m x.n D rfl ho1 ?_; intro W2 hrg hg hsz)
  go_frame
  have hL : LI x keep B D W1.heap.size (W.heap.size + 1) W W2 (Maps.has D) (Maps.size D) (Dk.new (W.heap.size + 1) W.heap.size x.room) := by
    have hlt : ∀ k, (Dk.new (W.heap.size + 1) W.heap.size x.room).ft k → k < W1.heap.size := fun k hk => H1.out.1.lt hk
    have hgb : Below W1.heap.size W1 W2 := ⟨hg.os, hg.tape, hg.output, hg.size, fun k hk => hg.block k hk (by simp)⟩
    refine ⟨hrg, H1.out.1.below hgb, rfl, fun hk => by have := hlt _ hk; omega, H1.out.2.size, H1.out.2.trans (Chg.of_below hgb), ⟨H.out.fine.room, ⟨by show (0 : Int) ≤ 0; omega, by show (0 : Int) ≤ _; omega⟩, ⟨by show _ ≤ (-1 : Int); omega, by show (-1 : Int) ≤ _; omega⟩, by show 0 < _; omega⟩, rfl, rfl, rfl, fun s => ⟨fun _ => rfl, fun f hf hl => ?_⟩, ?_, ?_, fun S hS => (hS.1 _ (fun s f hf => by rw [H.out.has s, hf]; rfl)).symm, rfl⟩
    · rw [H.out.has s, hf] at hl; cases hl
    · have hs := H.out.own.size_le
      show (0 : Int) + (B : Int) * (Maps.size D : Nat) ≤ _
      rw [Int.zero_add]
      exact Int.mul_le_mul_of_nonneg_left (by omega) (by omega)
    · show 0 + Maps.size D ≤ _
      have hs := H.out.own.size_le
      omega
  have HL := Lib.hid hL
  clear hrg hg hsz hL ho1 H1
  generalize W1.heap.size = r at *
  generalize W.heap.size + 1 = yd at *
  go_loopw [6] (fun _ wr => ∃ left cnt y, LI x keep B D r yd W wr left cnt y) (fun _ wr => wr.rangeLeft x.m r)
  case atStart => exact ⟨_, _, _, HL.out⟩
  case round =>
    obtain ⟨left, cnt, y, hi⟩ := hrel
    have HI := Lib.hid hi
    clear hi HL
    go_wp2_with (at_next; refine wpList_next_ranges _ rfl _ rfl 9 law ptrElem Value.string Value.pointer (fun key kl hk => (Maps.keyOf_str Tryz.underlying9 hk).elim fun s hs => ⟨_, hs.1⟩) (fun v z hz => (ptrElem_inv hz).elim (fun h => ⟨_, h.1⟩) (fun ⟨b, h⟩ => ⟨_, h.1⟩)) x.m r x.n D left cnt rfl HI.out.rg ?_ ?_)
    · intro hc0 hl0
      go_wp2_with fail
      have HZ := Lib.hid (show Lost2 x keep B W yd wr from ⟨y, HI.out.d, HI.out.yat, HI.out.chg, HI.out.fine, HI.out.room, HI.out.dead, HI.out.after, by rw [← show left = fun _ => false from funext hl0]; exact HI.out.found, by have := HI.out.used; rw [hc0] at this; simpa using this, by have := HI.out.n; omega, fun S hS => by rw [← show left = fun _ => false from funext hl0]; exact HI.out.sum S hS, HI.out.torn⟩)
      go_ret
      exact ⟨_, rfl, HZ.out⟩
    · intro key c kl zd zp W3 cnt3 hkey hlk hz hat hrg3 hlt hg3 hsz3 hen
      obtain ⟨s, f, rfl, rfl, hsl, hf, rfl⟩ := H.out.next hkey hz hat
      obtain ⟨hx3, hy3, hc3⟩ := H.out.step HI.out hg3
      obtain ⟨k1, k2⟩ := hx3.file s f hf
      obtain ⟨va, vc, hv⟩ := own_any k2
      rw [hv] at k1 k2
      obtain ⟨hfb, hfs⟩ := H.out.file s f hf
      have hbb : f.bs.length ≤ 100000000 := by
        have h1 := H.out.small
        have h2 : 1 ≤ x.n := by have := HI.out.n; omega
        have h3 : B * 1 ≤ B * x.n := Nat.mul_le_mul_left _ h2
        omega
      have HS := Lib.hid (fun (V : World) (hV : Below W3.heap.size W3 V) => (show V.cell? ⟨f.b, 0, none⟩ = some (.slice va f.bs.length vc) ∧ V.cell? ⟨f.b, 1, none⟩ = some (.int .i64 (f.syn : Nat)) from
        ⟨cell_of ((hV.block _ (lt_of k1)).trans k1) 0, cell_of ((hV.block _ (lt_of k1)).trans k1) 1⟩))
      have HK := Lib.hid (And.intro hx3 (And.intro hy3 (And.intro hc3 (And.intro hrg3 (And.intro hlt (And.intro hf (And.intro hlk (And.intro hsl (And.intro k1 (And.intro k2 (And.intro hg3 (And.intro hsz3 hfb))))))))))))
      clear hx3 hy3 hc3 hrg3 hlt hf hlk hsl k1 k2 hv hkey hz hat hg3 hsz3 hfb
      obtain ⟨u, hu⟩ : ∃ u, u = f.bs.length - f.syn := ⟨_, rfl⟩
      have HU := Lib.hid (show (f.bs.length : Int) - (f.syn : Int) = (u : Int) by omega)
      have HU2 := Lib.hid hu
      clear hu
      generalize hy : str s = q at *
      have HY := Lib.hid hy
      clear hy
      go_wp2_with fail
      have H0 : Below W3.heap.size W3 W3.drew := (Below.refl _ _).drew
      refine Drawn.start (fun V => Below W3.heap.size W3 V) (fun _ => false) (by kernel_rfl) ?_
      refine Drawn.take 0 (some 25) (v := ?_) rfl rfl (by kernel_rfl) (by kernel_rfl) (by kernel_rfl) (by kernel_rfl) (by kernel_rfl) rfl (fun _ _ _ h => h) (Or.inl ⟨rfl, ?_⟩) H0 ?_
      rotate_left
      · intro W hW; have hW := HS.out W hW; go_simp; try with_reducible rfl
      simp only [put_list, List.set]
      refine Drawn.take 1 (some 26) (v := ?_) rfl rfl (by kernel_rfl) (by kernel_rfl) (by kernel_rfl) (by kernel_rfl) (by kernel_rfl) rfl (fun _ _ _ h => h) (Or.inl ⟨rfl, ?_⟩) H0 ?_
      rotate_left
      · intro W hW; have hW := HS.out W hW; go_simp; try with_reducible rfl
      simp only [put_list, List.set]
      refine Drawn.take 2 (some 27) (v := ?_) rfl rfl (by kernel_rfl) (by kernel_rfl) (by kernel_rfl) (by kernel_rfl) (by kernel_rfl) rfl (fun _ _ _ h => h) (Or.inl ⟨rfl, ?_⟩) H0 ?_
      rotate_left
      · intro W hW; have hW := HS.out W hW; go_simp; try with_reducible rfl
      simp only [put_list, List.set]
      refine Drawn.take 3 (some 28) (v := ?_) rfl rfl (by kernel_rfl) (by kernel_rfl) (by kernel_rfl) (by kernel_rfl) (by kernel_rfl) rfl (fun _ _ _ h => h) (Or.inl ⟨rfl, ?_⟩) H0 ?_
      rotate_left
      · intro W hW; have hW := HS.out W hW; go_simp; try with_reducible rfl
      simp only [put_list, List.set]
      refine Drawn.take 4 (some 29) (v := ?_) rfl rfl (by kernel_rfl) (by kernel_rfl) (by kernel_rfl) (by kernel_rfl) (by kernel_rfl) rfl (fun _ _ _ h => h) (Or.inl ⟨rfl, ?_⟩) H0 ?_
      rotate_left
      · intro W hW; have hW := HS.out W hW; go_simp; try with_reducible rfl
      simp only [put_list, List.set]
      refine Drawn.take 5 (some 30) (v := ?_) rfl rfl (by kernel_rfl) (by kernel_rfl) (by kernel_rfl) (by kernel_rfl) (by kernel_rfl) rfl (fun _ _ _ h => h) (Or.inl ⟨rfl, ?_⟩) H0 ?_
      rotate_left
      · intro W hW; have hW := HS.out W hW; go_simp; try with_reducible rfl
      simp only [put_list, List.set]
      refine Drawn.take 6 (some 31) (v := ?_) rfl rfl (by kernel_rfl) (by kernel_rfl) (by kernel_rfl) (by kernel_rfl) (by kernel_rfl) rfl (fun _ _ _ h => h) (Or.inl ⟨rfl, ?_⟩) H0 ?_
      rotate_left
      · intro W hW; have hW := HS.out W hW; go_simp; try with_reducible rfl
      simp only [put_list, List.set]
      refine Drawn.take 7 (some 32) (v := ?_) rfl rfl (by kernel_rfl) (by kernel_rfl) (by kernel_rfl) (by kernel_rfl) (by kernel_rfl) rfl (fun _ _ _ h => h) (Or.inl ⟨rfl, ?_⟩) H0 ?_
      rotate_left
      · intro W hW; have hW := HS.out W hW; go_simp; try with_reducible rfl
      simp only [put_list, List.set]
      refine Drawn.take 8 (some 33) (v := ?_) rfl rfl (by kernel_rfl) (by kernel_rfl) (by kernel_rfl) (by kernel_rfl) (by kernel_rfl) rfl (fun _ _ _ h => h) (Or.inl ⟨rfl, ?_⟩) H0 ?_
      rotate_left
      · intro W hW; have hW := HS.out W hW; go_simp; try with_reducible rfl
      simp only [put_list, List.set]
      refine Drawn.take 9 (some 34) (v := ?_) rfl rfl (by kernel_rfl) (by kernel_rfl) (by kernel_rfl) (by kernel_rfl) (by kernel_rfl) rfl (fun _ _ _ h => h) (Or.inl ⟨rfl, ?_⟩) H0 ?_
      rotate_left
      · intro W hW; have hW := HS.out W hW; go_simp; try with_reducible rfl
      simp only [put_list, List.set]
      refine Drawn.take 10 (some 8) (v := ?_) rfl rfl (by kernel_rfl) (by kernel_rfl) (by kernel_rfl) (by kernel_rfl) (by kernel_rfl) rfl (fun _ _ _ h => h) (Or.inl ⟨rfl, ?_⟩) H0 ?_
      rotate_left
      · intro W hW; have hW := HS.out W hW; go_simp; try with_reducible rfl
      simp only [put_list, List.set]
      refine Drawn.done (by kernel_rfl) ?_ _
      have hub : u ≤ 100000000 := by have := HU2.out; omega
      rw [HU.out, show IntKind.i64.wrap (u : Int) = (u : Int) from IntWalk.i64_in _ ⟨by omega, by omega⟩]
      obtain ⟨k1, k2⟩ := HS.out W3.drew H0
      have hub2 : f.syn + u ≤ 100000000 := by have := HU2.out; omega
      have HKC := Lib.hid (fun (t : Nat) (ht : f.syn + t ≤ f.bs.length) => own_conv (W := W3.drew) (B := 0) (own_keep (w' := W3.drew) HK.out.2.2.2.2.2.2.2.2.2.1 (fun _ _ => rfl)) (f.syn + t) ht)
      have hvc : f.bs.length ≤ vc := by
        rcases HK.out.2.2.2.2.2.2.2.2.2.1.2 with ⟨e, h0⟩ | ⟨g, cap, cur, e, _, _, hn, _⟩
        · injection e with e1 e2 e3; omega
        · injection e with e1 e2 e3; omega
      have HUL := Lib.hid (show ∀ t : Nat, t ≤ u → f.syn + t ≤ f.bs.length from fun t ht => by have := HU2.out; omega)
      go_wp2_with (first
        | (refine wpList_max2 (by rfl) _ _ _ (by rfl) keep 0 (by rfl) (by rfl) ?_; intro qq hq; have HQ := Lib.hid hq; clear hq)
        | (refine wpList_min2 (by rfl) _ _ _ (by rfl) qq (u : Int) (by rfl) (by rfl) ?_; intro t0 ht0; obtain ⟨t, rfl, ht1, ht2⟩ := torn_nat HQ.out ht0; have HT := Lib.hid ht1; have hcv := HKC.out t (HUL.out t ht2); have hcap : f.syn + t ≤ vc := Nat.le_trans (HUL.out t ht2) hvc; clear ht0 ht1))
      have hkn : f.syn + t = keptN keep f := by rw [keptN, ← HU2.out, ← HT.out]
      have hkl : (f.bs.take (f.syn + t)).length = keptN keep f := by rw [List.length_take, Nat.min_eq_left (HUL.out t ht2), hkn]
      have hyn : y.fs s = none := (HI.out.found s).1 (Or.inr HK.out.2.2.2.2.2.2.1)
      have hw := write_c (x := y) (W := W3.drew) (s := s) (xs := f.bs.take (f.syn + t)) HK.out.2.1.drew HK.out.2.2.2.2.2.2.2.1 (by rw [hyn, hkl]; show 0 + _ ≤ _; have := kept_le (keep := keep) hfs; omega) HI.out.fine.n ⟨by have := HI.out.fine.used; omega, by have := HI.out.fine.used; omega⟩
      rw [HY.out, HI.out.d] at hw
      refine hw.mono ?_
      rintro e W4 ⟨rfl, g, hg1, hg2, hy4, hc4⟩
      have hs4 := secure_c (s := s) hy4 (updF_same _ _ _) HK.out.2.2.2.2.2.2.2.1
      rw [HY.out] at hs4
      rw [hyn] at hg1
      have HW := Lib.hid (And.intro hg1 (And.intro hc4 (And.intro hs4 (And.intro hkn hkl))))
      clear hw hy4 hc4 hs4 hg1 hg2 hyn hkn hkl hcv
      go_wp2_with fail
      refine HW.out.2.2.1.mono ?_
      rintro e W5 ⟨rfl, hy5, hc5⟩
      have hz := H.out.round HI.out (g := ⟨g.b, g.v, g.bs, g.bs.length⟩) HK.out.2.2.1 HK.out.2.2.2.1 HK.out.2.2.2.2.1 HK.out.2.2.2.2.2.2.1 HK.out.2.2.2.2.2.1 (by show g.bs = _; rw [HW.out.1, HW.out.2.2.2.1]; rfl) rfl (W5 := W5) (by rw [HW.out.2.2.2.2, upd_upd, ← HI.out.d] at hy5; exact hy5) (by
        have hc := HW.out.2.1.undrew.trans hc5
        rw [HW.out.2.2.2.2, upd_upd, ← HI.out.d] at hc; exact hc)
      have HZ := Lib.hid hz
      clear hz hy5 hc5 HW
      go_wp2_with fail
      refine ⟨⟨_, _, _, HZ.out⟩, ?_⟩
      rw [HZ.out.rg.left_eq, HI.out.rg.left_eq]
      exact HK.out.2.2.2.2.1
end
end Go.Proofs.YtialfpkmcafkmaaGreat
