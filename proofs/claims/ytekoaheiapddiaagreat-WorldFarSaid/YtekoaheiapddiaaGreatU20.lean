/- Merged: Vj, Vk. -/
import Derived.Test.YtekoaheiapddiaaGreatU19
section
namespace Go.Proofs.YtekoaheiapddiaaGreat
open Go.RowKit

theorem decV_ok {s : List UInt8} (h : (decV s).2 = 0) : (decV s).1.enc = s := by
  unfold decV at h ⊢
  split at h
  · simp at h
  · rename_i hl
    rw [if_neg hl]
    cases hp : decP s with
    | none => rw [hp] at h; simp at h
    | some f =>
      simp only
      have he := decP_enc hp
      have h1 : (itOf f).enc = f.enc := by
        unfold decP at hp
        split at hp
        · next g hg =>
          injection hp with hp
          subst hp
          obtain ⟨y, rfl⟩ := itemP_one _ _ _ _ hg
          rw [itOf_fo, It.enc_fo']
        · cases hp
      rw [h1, he]
theorem decV_of {x : It} {s : List UInt8} (h : x.enc = s) (hl : x.enc.length < 60000) (hd : x.dep ≤ 65) : decV s = (x, 0) := by
  subst h
  unfold decV
  rw [if_neg (by omega), dec_it x hl hd]
  simp only [itOf_fo]
theorem putAsk_c {a : AskP} (hw : a.Wf) (w : World) : Calls Tryz.prog 149 #[askV a] w fun e w' => e = .returned (putAskV a) ∧ Below w.heap.size w w' := by
  by_cases hl : a.addr.length = 20
  · exact putAsk_20 hl hw w
  · exact putAsk_bad hl w
theorem SlF_inner {S : Nat → Prop} {x : It} {v : Value} {W : World} (h : ItV S x v W) : ∃ b t u, v = .agg #[.bool b, .string t, u] ∧ SlF S x.inner u W := by
  cases x with
  | text s => exact ⟨_, _, _, h, Or.inl ⟨rfl, rfl⟩⟩
  | list i => obtain ⟨u, e, h⟩ := h; exact ⟨_, _, u, e, h⟩
theorem inner_len (x : It) : x.inner.enc.length ≤ x.enc.length := by
  cases x with
  | text s => simp [It.inner, Fo.enc]
  | list i => simp only [It.inner, It.enc, List.length_append]; omega
/-- What GetAsk answers. -/
def askO : Option AskP → Value
  | none => .tuple #[.agg #[.int .u64 0, .string ⟨#[]⟩, .int .u64 0, .int .u64 0, .int .u64 0, .int .u64 0, .int .i64 0], .bool false]
  | some a => .tuple #[askV a, .bool true]
def GetAskR (s : List UInt8) (w : World) (e : Ending) (w' : World) : Prop := ∃ o, AskIs s o ∧ e = .returned (askO o) ∧ Below w.heap.size w w'
theorem ar_results (tmps : Array Value) (w : World) (a b : Nat) (cs : Array Value) (v : Value) (hp : tmps.getD 8 undef = .pointer (some ⟨a, 0, none⟩)) (hq : tmps.getD 9 undef = .pointer (some ⟨b, 0, none⟩)) (ha : w.heap[a]? = some (.cells cs 117 (0, 0))) (hc : cs.size = 7) (hb : w.heap[b]? = some (.cells #[v] 4 (0, 0))) :
    (results Tryz.f147 tmps).run Tryz.prog w = .ok (.tuple #[.agg cs, v]) w := by
  match cs, hc with
  | ⟨[v0, v1, v2, v3, v4, v5, v6]⟩, _ =>
    obtain ⟨⟨c0, c1, c2, c3, c4, c5, c6⟩, _⟩ := cells7 ha
    have c7 : w.cell? ⟨b, 0, none⟩ = some v := cell_of hb 0
    have hp' : tmps[8]?.getD undef = .pointer (some ⟨a, 0, none⟩) := by simpa using hp
    have hq' : tmps[9]?.getD undef = .pointer (some ⟨b, 0, none⟩) := by simpa using hq
    simp [results, Tryz.results147, hp', hq', go_sem, c0, c1, c2, c3, c4, c5, c6, c7]
/-- Both results' boxes, as the call goes on. -/
structure Ab (w : World) (cs : Array Value) (v : Value) (V : World) : Prop where
  below : Below w.heap.size w V
  got : V.heap[w.heap.size]? = some (.cells cs 117 (0, 0))
  ok : V.heap[w.heap.size + 1]? = some (.cells #[v] 4 (0, 0))
section
variable {w V V' : World} {cs : Array Value} {v : Value}
theorem Ab.call (h : Ab w cs v V) (hb : Below V.heap.size V V') : Ab w cs v V' := ⟨h.below.trans (hb.mono h.below.size), (hb.block _ (lt_of h.got)).trans h.got, (hb.block _ (lt_of h.ok)).trans h.ok⟩
theorem Ab.only {g : Nat} (h : Ab w cs v V) (hg : w.heap.size + 1 < g) (ho : Only (fun k => k = g) V.heap.size V V') : Ab w cs v V' :=
  ⟨h.below.trans (Only.below (ho.mono (B' := w.heap.size) h.below.size (fun _ _ k => k)) (Nat.le_refl _) (fun k hk e => by omega)), (ho.block _ (lt_of h.got) (by omega)).trans h.got, (ho.block _ (lt_of h.ok) (by omega)).trans h.ok⟩
theorem Ab.start (w : World) (cs : Array Value) (v : Value) : Ab w cs v ((w.alloc (.cells cs 117)).alloc (.cells #[v] 4)) :=
  ⟨((Below.refl _ _).alloc (Nat.le_refl _) _).alloc (by simp) _, heap_alloc2_old w _ _, heap_alloc2_new w _ _⟩
theorem Ab.put {v0 v1 v2 v3 v4 v5 v6 : Value} (h : Ab w #[v0, v1, v2, v3, v4, v5, v6] v V) (u0 u1 u2 u3 u4 u5 u6 : Value) : Ab w #[u0, u1, u2, u3, u4, u5, u6] v (((((((V.setCell ⟨w.heap.size, 0, none⟩ u0).setCell ⟨w.heap.size, 1, none⟩ u1).setCell ⟨w.heap.size, 2, none⟩ u2).setCell ⟨w.heap.size, 3, none⟩ u3).setCell ⟨w.heap.size, 4, none⟩ u4).setCell ⟨w.heap.size, 5, none⟩ u5).setCell ⟨w.heap.size, 6, none⟩ u6) := by
  refine ⟨?_, set7 h.got _ _ _ _ _ _ _, ?_⟩
  · exact ((((((h.below.setCell (p := ⟨w.heap.size, 0, none⟩) (Nat.le_refl _) _).setCell (p := ⟨w.heap.size, 1, none⟩) (Nat.le_refl _) _).setCell (p := ⟨w.heap.size, 2, none⟩) (Nat.le_refl _) _).setCell (p := ⟨w.heap.size, 3, none⟩) (Nat.le_refl _) _).setCell (p := ⟨w.heap.size, 4, none⟩) (Nat.le_refl _) _).setCell (p := ⟨w.heap.size, 5, none⟩) (Nat.le_refl _) _).setCell (p := ⟨w.heap.size, 6, none⟩) (Nat.le_refl _) _
  · rw [heap_setCell_other _ _ _ _ (by simp), heap_setCell_other _ _ _ _ (by simp), heap_setCell_other _ _ _ _ (by simp), heap_setCell_other _ _ _ _ (by simp), heap_setCell_other _ _ _ _ (by simp), heap_setCell_other _ _ _ _ (by simp), heap_setCell_other _ _ _ _ (by simp)]
    exact h.ok
theorem Ab.flag (h : Ab w cs v V) (u : Value) : Ab w cs u (V.setCell ⟨w.heap.size + 1, 0, none⟩ u) := by
  refine ⟨h.below.setCell (p := ⟨w.heap.size + 1, 0, none⟩) (by simp) _, (heap_setCell_other _ _ _ _ (by simp)).trans h.got, ?_⟩
  have e := heap_setCell_same _ _ 0 _ _ u h.ok
  simpa using e
end
/-- Behind a panic: nothing was got. -/
theorem Ab.caught {w V : World} {v0 v1 v2 v3 v4 v5 v6 v : Value} (h : Ab w #[v0, v1, v2, v3, v4, v5, v6] v V) :
    Ab w #[.int .u64 0, .string ⟨#[]⟩, .int .u64 0, .int .u64 0, .int .u64 0, .int .u64 0, .int .i64 0] (.bool false) (((((((((V.alloc (.cells #[.int .u64 0, .string ⟨#[]⟩, .int .u64 0, .int .u64 0, .int .u64 0, .int .u64 0, .int .i64 0] 117)).setCell ⟨w.heap.size, 0, none⟩ (.int .u64 0)).setCell ⟨w.heap.size, 1, none⟩ (.string ⟨#[]⟩)).setCell ⟨w.heap.size, 2, none⟩ (.int .u64 0)).setCell ⟨w.heap.size, 3, none⟩ (.int .u64 0)).setCell ⟨w.heap.size, 4, none⟩ (.int .u64 0)).setCell ⟨w.heap.size, 5, none⟩ (.int .u64 0)).setCell ⟨w.heap.size, 6, none⟩ (.int .i64 0)).setCell ⟨w.heap.size + 1, 0, none⟩ (.bool false)) :=
  ((h.call ((Below.refl _ _).alloc (Nat.le_refl _) _)).put _ _ _ _ _ _ _).flag _
theorem enterA (args : Array Value) (w : World) : (callFunc 148 args).run Tryz.prog w = .ok (.enter 148 args) w := enters_of Tryz.func148 (by kernel_rfl) rfl args w
theorem enterP (args : Array Value) (w : World) : (callFunc 149 args).run Tryz.prog w = .ok (.enter 149 args) w := enters_of Tryz.func149 (by kernel_rfl) rfl args w
set_option maxRecDepth 100000 in
set_option maxHeartbeats 4000000 in
theorem readAsk_c (s : List UInt8) (w : World) : Calls Tryz.prog 147 #[.string (str s), .int .i64 0, .func (.func 148) #[] #[], .func (.func 149) #[] #[]] w fun e w' => GetAskR s w e w' := by
  have hsl : (str s).extract 0 (str s).size = str s := by rw [str_drop]; simp
  have hz0 : (0 : Int) ≤ ((str s).size : Int) := by omega
  have HD := Lib.hid (fun V => decode_n s V)
  have hm := hmf
  have A0 := Lib.hid (Ab.start w #[.int .u64 0, .string ⟨#[]⟩, .int .u64 0, .int .u64 0, .int .u64 0, .int .u64 0, .int .i64 0] (.bool false))
  have HT := Lib.hid (str_eq · s)
  have enA := enterA
  have enP := enterP
  generalize hst : str s = y at *
  have HS := Lib.hid hst
  clear hst
  go_enter_defers Tryz.func147, Tryz.ntmps147
  go_wp2_with fail
  refine (wmust_ok _).mono ?_
  rintro e w1 ⟨rfl, rfl⟩
  go_wp2_with fail
  refine (HD.out _).mono ?_
  rintro e w2 ⟨v, rfl, hv, hb⟩
  obtain ⟨b2, t2, u2, rfl, hi⟩ := SlF_inner hv
  obtain ⟨a2, n2, c2, rfl⟩ := hi.form
  have A2 := Lib.hid (A0.out.call hb)
  have hs2 := hb.size
  simp only [alloc_size] at hs2 hi
  clear hv hb A0 HD
  by_cases her : (decV s).2 = 0
  · have hen := decV_ok her
    have hil := inner_len (decV s).1
    have hle : (decV s).1.enc.length ≤ 65536 := decV_enc s
    have HX := Lib.hid (fun (a : AskP) (hw : a.Wf) (ho : a.Ok) (h : a.enc = s) => show (decV s).1.inner = a.fo from by
      have := decV_of (x := a.it) (s := s) h (by have := AskP.enc_len hw ho; unfold AskP.enc at this; omega) a.dep
      rw [this]; rfl)
    have HI := Lib.hid (And.intro hi (show (decV s).1.inner.enc.length ≤ 70000 by omega))
    rw [her]
    clear her hen hil hle hi
    generalize (decV s).1.inner = f at *
    obtain ⟨W3, hW3⟩ : ∃ W3, W3 = (w2.alloc (.cells #[.bool b2, .string t2, .slice a2 n2 c2] 198)).alloc (.cells #[.slice a2 n2 c2] 286) := ⟨_, rfl⟩
    have hb3 : Below w2.heap.size w2 W3 := by rw [hW3]; exact ((Below.refl _ _).alloc (Nat.le_refl _) _).alloc (by simp) _
    have A3 := Lib.hid (A2.out.call hb3)
    have hfd : Fd (fun k => w.heap.size + 1 + 1 ≤ k ∧ k < w2.heap.size) (w2.heap.size + 1) f W3 := by
      refine ⟨fun k hk => ⟨by have := hb3.size; omega, by omega⟩, _, by rw [hW3]; exact heap_alloc2_new _ _ _, HI.out.1.kept fun k hk => hb3.block k hk.2⟩
    have HA := Lib.hid (ask_c hfd HI.out.2)
    have HW := Lib.hid hW3
    clear hb3 hfd hW3
    unfold fN fT fW at HA
    go_wp2_with fail
    refine (wmust_ok _).mono ?_
    rintro e w4 ⟨rfl, rfl⟩
    go_wp2_with fail
    rw [← HW.out]
    refine HA.out.mono ?_
    rintro e w5 ⟨ho, hr⟩
    have A5 := Lib.hid (A3.out.only (by omega) ho)
    clear ho A3 HA HI
    rcases hr with ⟨rfl, hno⟩ | ⟨a, rfl, haw, hone⟩
    · have HN := Lib.hid (show AskIs s none from fun a hw ho h => hno a hw ho (HX.out a hw ho h))
      clear hno HX
      refine leaves_cons (f := 185) (args := #[.pointer (some ⟨w.heap.size, 0, none⟩), .pointer (some ⟨w.heap.size + 1, 0, none⟩)]) (by simp) (by simp [go_sem]) ?_
      refine (acatch_panicking w.heap.size (w.heap.size + 1) _ _ _ _ _ _ _ _ 27 (.int .i64 2) [] _ A5.out.got A5.out.ok (by omega)).mono ?_
      rintro e u' w'' ⟨rfl, rfl, rfl⟩
      refine ⟨_, ar_results _ _ w.heap.size (w.heap.size + 1) _ _ rfl rfl A5.out.caught.got rfl A5.out.caught.ok, ?_⟩
      exact ⟨none, HN.out, rfl, A5.out.caught.below⟩
    · have HN := Lib.hid (show ¬ (a.Ok ∧ a.enc = s) → AskIs s none from fun hn b hw ho h => hn (by
        have := hone b hw ho (HX.out b hw ho h)
        subst this
        exact ⟨ho, h⟩))
      have HP := Lib.hid (fun V => putAsk_c haw V)
      have HWa := Lib.hid haw
      clear hone haw HX
      obtain ⟨_, z0, z1, z2, z3, z4, z5, z6⟩ := cells7 A5.out.got
      obtain ⟨⟨c0, c1, c2', c3, c4, c5, c6⟩, _⟩ := cells7 A5.out.got
      have A6 := A5.out.put (.int .u64 a.id) (.string (str a.addr)) (.int .u64 (l3 a.slot : Nat)) (.int .u64 (l2 a.slot : Nat)) (.int .u64 (l1 a.slot : Nat)) (.int .u64 (l0 a.slot : Nat)) (.int .i64 a.kind)
      obtain ⟨⟨d0, d1, d2, d3, d4, d5, d6⟩, _⟩ := cells7 A6.got
      have H6 := Lib.hid A6
      clear A6
      unfold askV at HP ⊢
      go_wp2_with fail
      refine (HP.out _).mono ?_
      rintro e w7 ⟨rfl, hb7⟩
      have A7 := Lib.hid (H6.out.call hb7)
      clear hb7 HP H6 z0 z1 z2 z3 z4 z5 z6 c0 c1 c2' c3 c4 c5 c6 d0 d1 d2 d3 d4 d5 d6
      have q0 := cell_of A7.out.ok 0
      have q1 := free_of A7.out.ok 0
      by_cases hok : a.Ok
      · rw [putAskV_ok hok]
        have A8 := Lib.hid (A7.out.flag (.bool true))
        have q2 := cell_of A8.out.ok 0
        by_cases he : a.enc = s
        · have hcmp : ((str a.enc).toList == y.toList) = true := by rw [HT.out, he]; simp
          have HO := Lib.hid (show AskIs s (some a) from ⟨HWa.out, hok, he⟩)
          clear hok he HN
          generalize str a.enc = z at *
          go_wp2_with fail
          refine (wmust_ok _).mono ?_
          rintro e w9 ⟨rfl, rfl⟩
          obtain ⟨⟨c0, c1, c2', c3, c4, c5, c6⟩, z0, z1, z2, z3, z4, z5, z6⟩ := cells7 A8.out.got
          have A9 := A8.out.put (.int .u64 a.id) (.string (str a.addr)) (.int .u64 (l3 a.slot : Nat)) (.int .u64 (l2 a.slot : Nat)) (.int .u64 (l1 a.slot : Nat)) (.int .u64 (l0 a.slot : Nat)) (.int .i64 a.kind)
          have q5 := cell_of A9.ok 0
          have q6 := free_of A9.ok 0
          have H9 := Lib.hid (A9.flag (.bool true))
          clear A9 q0 q1 q2
          go_wp2_with fail
          refine leaves_cons (f := 185) (args := #[.pointer (some ⟨w.heap.size, 0, none⟩), .pointer (some ⟨w.heap.size + 1, 0, none⟩)]) (by simp) (by simp [go_sem]) ?_
          refine (acatch_idle _ _ _).mono ?_
          rintro e u' w'' ⟨rfl, rfl, rfl⟩
          refine ⟨_, ar_results _ _ w.heap.size (w.heap.size + 1) _ _ rfl rfl H9.out.got rfl H9.out.ok, ?_⟩
          exact ⟨some a, HO.out, rfl, H9.out.below⟩
        · have hcmp : ((str a.enc).toList == y.toList) = false := by rw [HT.out]; simp [he]
          have HO := Lib.hid (HN.out (fun h => he h.2))
          clear hok he HN
          generalize str a.enc = z at *
          go_wp2_with fail
          refine (wmust_no _).mono ?_
          rintro e w9 ⟨rfl, rfl⟩
          refine leaves_cons (f := 185) (args := #[.pointer (some ⟨w.heap.size, 0, none⟩), .pointer (some ⟨w.heap.size + 1, 0, none⟩)]) (by simp) (by simp [go_sem]) ?_
          refine (acatch_panicking w.heap.size (w.heap.size + 1) _ _ _ _ _ _ _ _ 27 (.int .i64 2) [] _ A8.out.got A8.out.ok (by omega)).mono ?_
          rintro e u' w'' ⟨rfl, rfl, rfl⟩
          refine ⟨_, ar_results _ _ w.heap.size (w.heap.size + 1) _ _ rfl rfl A8.out.caught.got rfl A8.out.caught.ok, ?_⟩
          exact ⟨none, HO.out, rfl, A8.out.caught.below⟩
      · rw [putAskV_no hok]
        have A8 := Lib.hid (A7.out.flag (.bool false))
        have q2 := cell_of A8.out.ok 0
        have HO := Lib.hid (HN.out (fun h => hok h.1))
        clear hok HN
        go_wp2_with fail
        refine (wmust_no _).mono ?_
        rintro e w9 ⟨rfl, rfl⟩
        refine leaves_cons (f := 185) (args := #[.pointer (some ⟨w.heap.size, 0, none⟩), .pointer (some ⟨w.heap.size + 1, 0, none⟩)]) (by simp) (by simp [go_sem]) ?_
        refine (acatch_panicking w.heap.size (w.heap.size + 1) _ _ _ _ _ _ _ _ 27 (.int .i64 2) [] _ A8.out.got A8.out.ok (by omega)).mono ?_
        rintro e u' w'' ⟨rfl, rfl, rfl⟩
        refine ⟨_, ar_results _ _ w.heap.size (w.heap.size + 1) _ _ rfl rfl A8.out.caught.got rfl A8.out.caught.ok, ?_⟩
        exact ⟨none, HO.out, rfl, A8.out.caught.below⟩
  · have HN := Lib.hid (show AskIs s none from fun a hw ho h => her (by
      rw [decV_of (x := a.it) (s := s) h (by have := AskP.enc_len hw ho; unfold AskP.enc at this; omega) a.dep]))
    have heb : ((((decV s).2 : Nat) : Int) == 0) = false := by rw [beq_eq_false_iff_ne]; omega
    generalize (decV s).2 = er at *
    have A3 := Lib.hid (A2.out.call ((Below.refl w2.heap.size w2).alloc (Nat.le_refl _) (.cells #[.bool b2, .string t2, .slice a2 n2 c2] 198)))
    clear her hi
    go_wp2_with fail
    refine (wmust_no _).mono ?_
    rintro e w9 ⟨rfl, rfl⟩
    refine leaves_cons (f := 185) (args := #[.pointer (some ⟨w.heap.size, 0, none⟩), .pointer (some ⟨w.heap.size + 1, 0, none⟩)]) (by simp) (by simp [go_sem]) ?_
    refine (acatch_panicking w.heap.size (w.heap.size + 1) _ _ _ _ _ _ _ _ 27 (.int .i64 2) [] _ A3.out.got A3.out.ok (by omega)).mono ?_
    rintro e u' w'' ⟨rfl, rfl, rfl⟩
    refine ⟨_, ar_results _ _ w.heap.size (w.heap.size + 1) _ _ rfl rfl A3.out.caught.got rfl A3.out.caught.ok, ?_⟩
    exact ⟨none, HN.out, rfl, A3.out.caught.below⟩
set_option maxRecDepth 100000 in
theorem getAsk_c (s : List UInt8) (w : World) : Calls Tryz.prog 104 #[.string (str s)] w fun e w' => GetAskR s w e w' := by
  have hal : Below w.heap.size w (w.alloc (.cells #[.int .u64 0, .string ⟨#[]⟩, .int .u64 0, .int .u64 0, .int .u64 0, .int .u64 0, .int .i64 0] 117)) := (Below.refl _ _).alloc (Nat.le_refl _) _
  have hx := heap_alloc_new w (.cells #[.int .u64 0, .string ⟨#[]⟩, .int .u64 0, .int .u64 0, .int .u64 0, .int .u64 0, .int .i64 0] 117)
  have C := Lib.hid (fun V => readAsk_c s V)
  have HA := Lib.hid (And.intro hal hx)
  clear hal hx
  generalize str s = y at *
  go_enter Tryz.func104, Tryz.ntmps104
  go_wp2_with fail
  refine (C.out _).mono ?_
  rintro e w1 ⟨o, ho, rfl, hb⟩
  have kb := (hb.block _ (lt_of HA.out.2)).trans HA.out.2
  obtain ⟨⟨c0, c1, c2, c3, c4, c5, c6⟩, z0, z1, z2, z3, z4, z5, z6⟩ := cells7 kb
  have HB := Lib.hid (And.intro (HA.out.1.trans (hb.mono (by simp))) kb)
  have HO := Lib.hid ho
  clear hb kb ho HA C
  cases o with
  | none =>
    unfold askO
    go_wp2_with fail
    refine bodyPost_ret (results_cell_slot Tryz.results104 _ _ _ _ _ _ _ _ rfl rfl (set7 HB.out.2 _ _ _ _ _ _ _) Tryz.underlying117 rfl (by kernel_rfl)) rfl ⟨none, HO.out, rfl, ?_⟩
    exact ((((((HB.out.1.setCell (p := ⟨w.heap.size, 0, none⟩) (Nat.le_refl _) _).setCell (p := ⟨w.heap.size, 1, none⟩) (Nat.le_refl _) _).setCell (p := ⟨w.heap.size, 2, none⟩) (Nat.le_refl _) _).setCell (p := ⟨w.heap.size, 3, none⟩) (Nat.le_refl _) _).setCell (p := ⟨w.heap.size, 4, none⟩) (Nat.le_refl _) _).setCell (p := ⟨w.heap.size, 5, none⟩) (Nat.le_refl _) _).setCell (p := ⟨w.heap.size, 6, none⟩) (Nat.le_refl _) _
  | some a =>
    unfold askO askV
    go_wp2_with fail
    refine bodyPost_ret (results_cell_slot Tryz.results104 _ _ _ _ _ _ _ _ rfl rfl (set7 HB.out.2 _ _ _ _ _ _ _) Tryz.underlying117 rfl (by kernel_rfl)) rfl ⟨some a, HO.out, rfl, ?_⟩
    exact ((((((HB.out.1.setCell (p := ⟨w.heap.size, 0, none⟩) (Nat.le_refl _) _).setCell (p := ⟨w.heap.size, 1, none⟩) (Nat.le_refl _) _).setCell (p := ⟨w.heap.size, 2, none⟩) (Nat.le_refl _) _).setCell (p := ⟨w.heap.size, 3, none⟩) (Nat.le_refl _) _).setCell (p := ⟨w.heap.size, 4, none⟩) (Nat.le_refl _) _).setCell (p := ⟨w.heap.size, 5, none⟩) (Nat.le_refl _) _).setCell (p := ⟨w.heap.size, 6, none⟩) (Nat.le_refl _) _
end Go.Proofs.YtekoaheiapddiaaGreat
end
section
namespace Go.Proofs.YtekoaheiapddiaaGreat
open Go.RowKit

theorem set11 {w : World} {b : Nat} {v0 v1 v2 v3 v4 v5 v6 v7 v8 v9 v10 : Value} {t : TypeId} (h : w.heap[b]? = some (.cells #[v0, v1, v2, v3, v4, v5, v6, v7, v8, v9, v10] t (0, 0))) (u0 u1 u2 u3 u4 u5 u6 u7 u8 u9 u10 : Value) :
    (((((((((((w.setCell ⟨b, 0, none⟩ u0).setCell ⟨b, 1, none⟩ u1).setCell ⟨b, 2, none⟩ u2).setCell ⟨b, 3, none⟩ u3).setCell ⟨b, 4, none⟩ u4).setCell ⟨b, 5, none⟩ u5).setCell ⟨b, 6, none⟩ u6).setCell ⟨b, 7, none⟩ u7).setCell ⟨b, 8, none⟩ u8).setCell ⟨b, 9, none⟩ u9).setCell ⟨b, 10, none⟩ u10).heap[b]? = some (.cells #[u0, u1, u2, u3, u4, u5, u6, u7, u8, u9, u10] t (0, 0)) := by
  have e := (heap_setCell_same _ _ 10 _ _ u10 (heap_setCell_same _ _ 9 _ _ u9 (heap_setCell_same _ _ 8 _ _ u8 (heap_setCell_same _ _ 7 _ _ u7 (heap_setCell_same _ _ 6 _ _ u6 (heap_setCell_same _ _ 5 _ _ u5 (heap_setCell_same _ _ 4 _ _ u4 (heap_setCell_same _ _ 3 _ _ u3 (heap_setCell_same _ _ 2 _ _ u2 (heap_setCell_same _ _ 1 _ _ u1 (heap_setCell_same _ _ 0 _ _ u0 h)))))))))))
  simpa using e
theorem cells11 {w : World} {b : Nat} {v0 v1 v2 v3 v4 v5 v6 v7 v8 v9 v10 : Value} {t : TypeId} (h : w.heap[b]? = some (.cells #[v0, v1, v2, v3, v4, v5, v6, v7, v8, v9, v10] t (0, 0))) :
    (w.cell? ⟨b, 0, none⟩ = some v0 ∧ w.cell? ⟨b, 1, none⟩ = some v1 ∧ w.cell? ⟨b, 2, none⟩ = some v2 ∧ w.cell? ⟨b, 3, none⟩ = some v3 ∧ w.cell? ⟨b, 4, none⟩ = some v4 ∧ w.cell? ⟨b, 5, none⟩ = some v5 ∧ w.cell? ⟨b, 6, none⟩ = some v6 ∧ w.cell? ⟨b, 7, none⟩ = some v7 ∧ w.cell? ⟨b, 8, none⟩ = some v8 ∧ w.cell? ⟨b, 9, none⟩ = some v9 ∧ w.cell? ⟨b, 10, none⟩ = some v10) ∧ (w.frozen? ⟨b, 0, none⟩ = false ∧ w.frozen? ⟨b, 1, none⟩ = false ∧ w.frozen? ⟨b, 2, none⟩ = false ∧ w.frozen? ⟨b, 3, none⟩ = false ∧ w.frozen? ⟨b, 4, none⟩ = false ∧ w.frozen? ⟨b, 5, none⟩ = false ∧ w.frozen? ⟨b, 6, none⟩ = false ∧ w.frozen? ⟨b, 7, none⟩ = false ∧ w.frozen? ⟨b, 8, none⟩ = false ∧ w.frozen? ⟨b, 9, none⟩ = false ∧ w.frozen? ⟨b, 10, none⟩ = false) :=
  ⟨⟨cell_of h 0, cell_of h 1, cell_of h 2, cell_of h 3, cell_of h 4, cell_of h 5, cell_of h 6, cell_of h 7, cell_of h 8, cell_of h 9, cell_of h 10⟩, free_of h 0, free_of h 1, free_of h 2, free_of h 3, free_of h 4, free_of h 5, free_of h 6, free_of h 7, free_of h 8, free_of h 9, free_of h 10⟩
theorem Only.set11 {may : Nat → Prop} {B b : Nat} {a w : World} (h : Only may B a w) (hb : B ≤ b) (u0 u1 u2 u3 u4 u5 u6 u7 u8 u9 u10 : Value) : Only may B a (((((((((((w.setCell ⟨b, 0, none⟩ u0).setCell ⟨b, 1, none⟩ u1).setCell ⟨b, 2, none⟩ u2).setCell ⟨b, 3, none⟩ u3).setCell ⟨b, 4, none⟩ u4).setCell ⟨b, 5, none⟩ u5).setCell ⟨b, 6, none⟩ u6).setCell ⟨b, 7, none⟩ u7).setCell ⟨b, 8, none⟩ u8).setCell ⟨b, 9, none⟩ u9).setCell ⟨b, 10, none⟩ u10) :=
  (((((((((((h.setCell (p := ⟨b, 0, none⟩) (Or.inl hb) u0).setCell (p := ⟨b, 1, none⟩) (Or.inl hb) u1).setCell (p := ⟨b, 2, none⟩) (Or.inl hb) u2).setCell (p := ⟨b, 3, none⟩) (Or.inl hb) u3).setCell (p := ⟨b, 4, none⟩) (Or.inl hb) u4).setCell (p := ⟨b, 5, none⟩) (Or.inl hb) u5).setCell (p := ⟨b, 6, none⟩) (Or.inl hb) u6).setCell (p := ⟨b, 7, none⟩) (Or.inl hb) u7).setCell (p := ⟨b, 8, none⟩) (Or.inl hb) u8).setCell (p := ⟨b, 9, none⟩) (Or.inl hb) u9).setCell (p := ⟨b, 10, none⟩) (Or.inl hb) u10)
theorem Below.set11 {B b : Nat} {a w : World} (h : Below B a w) (hb : B ≤ b) (u0 u1 u2 u3 u4 u5 u6 u7 u8 u9 u10 : Value) : Below B a (((((((((((w.setCell ⟨b, 0, none⟩ u0).setCell ⟨b, 1, none⟩ u1).setCell ⟨b, 2, none⟩ u2).setCell ⟨b, 3, none⟩ u3).setCell ⟨b, 4, none⟩ u4).setCell ⟨b, 5, none⟩ u5).setCell ⟨b, 6, none⟩ u6).setCell ⟨b, 7, none⟩ u7).setCell ⟨b, 8, none⟩ u8).setCell ⟨b, 9, none⟩ u9).setCell ⟨b, 10, none⟩ u10) :=
  (((((((((((h.setCell (p := ⟨b, 0, none⟩) hb u0).setCell (p := ⟨b, 1, none⟩) hb u1).setCell (p := ⟨b, 2, none⟩) hb u2).setCell (p := ⟨b, 3, none⟩) hb u3).setCell (p := ⟨b, 4, none⟩) hb u4).setCell (p := ⟨b, 5, none⟩) hb u5).setCell (p := ⟨b, 6, none⟩) hb u6).setCell (p := ⟨b, 7, none⟩) hb u7).setCell (p := ⟨b, 8, none⟩) hb u8).setCell (p := ⟨b, 9, none⟩) hb u9).setCell (p := ⟨b, 10, none⟩) hb u10)
theorem wordO_len {f r : Fo} {v : Value} (h : wordO f = some (v, r)) : r.enc.length ≤ f.enc.length := by
  cases f with
  | nil => cases h
  | list i q => simp only [wordO, Option.some.injEq, Prod.mk.injEq] at h; obtain ⟨_, rfl⟩ := h; simp only [Fo.enc, List.length_append]; omega
  | text s q =>
    simp only [wordO] at h
    split at h
    · simp only [Option.some.injEq, Prod.mk.injEq] at h; obtain ⟨_, rfl⟩ := h; simp only [Fo.enc, List.length_append]; omega
    · cases h
/-- What a reply's fields come to. -/
def RepR (kind : Int) (g : Nat) (f : Fo) (w : World) (e : Ending) (w' : World) : Prop :=
  Only (fun k => k = g) w.heap.size w w' ∧ ((e = .panicked boom ∧ ∀ b : ReplyP, b.Wf → b.Ok kind → f ≠ b.fo kind) ∨ ∃ a : ReplyP, e = .returned (replyV a) ∧ a.Wf ∧ ∀ b : ReplyP, b.Wf → b.Ok kind → f = b.fo kind → a = b)
theorem RepR.bad {kind : Int} {g : Nat} {f : Fo} {w w' : World} {e : Ending} (h1 : Only (fun k => k = g) w.heap.size w w') (h2 : e = .panicked boom) (h3 : ∀ b : ReplyP, b.Wf → b.Ok kind → f ≠ b.fo kind) : RepR kind g f w e w' := ⟨h1, Or.inl ⟨h2, h3⟩⟩
theorem RepR.good {kind : Int} {g : Nat} {f : Fo} {w w' : World} {e : Ending} (a : ReplyP) (h1 : Only (fun k => k = g) w.heap.size w w') (h2 : e = .returned (replyV a)) (h3 : a.Wf) (h4 : ∀ b : ReplyP, b.Wf → b.Ok kind → f = b.fo kind → a = b) : RepR kind g f w e w' := ⟨h1, Or.inr ⟨a, h2, h3, h4⟩⟩
theorem rep1_steps {b : ReplyP} (hw : b.Wf) : numO (b.fo 1) = some (.int .u64 b.id, .text (num b.nonce) (.text (wordL b.bal) (.text b.code .nil))) ∧ numO (.text (num b.nonce) (.text (wordL b.bal) (.text b.code .nil))) = some (.int .u64 b.nonce, .text (wordL b.bal) (.text b.code .nil)) ∧
    wordO (.text (wordL b.bal) (.text b.code .nil)) = some (wordV b.bal, .text b.code .nil) ∧ textO (.text b.code .nil) = some (.string (str b.code), .nil) :=
  ⟨numO_num hw.id _, numO_num hw.nonce _, wordO_word hw.bal _, rfl⟩
theorem rep2_steps {b : ReplyP} {kind : Int} (hk : kind ≠ 1) (hw : b.Wf) : numO (b.fo kind) = some (.int .u64 b.id, .text (wordL b.value) .nil) ∧ wordO (.text (wordL b.value) .nil) = some (wordV b.value, .nil) := by
  refine ⟨?_, wordO_word hw.value _⟩
  unfold ReplyP.fo
  rw [if_neg hk]
  exact numO_num hw.id _
set_option maxRecDepth 100000 in
set_option maxHeartbeats 4000000 in
theorem account_c {S : Nat → Prop} {g : Nat} {f : Fo} {w : World} (h : Fd S g f w) (hl : f.enc.length ≤ 70000) : Calls Tryz.prog 151 #[fN g, fT g, fW g] w fun e w' => RepR 1 g f w e w' := by
  have G0 := Lib.hid (Gt.start h #[.int .u64 0, .int .u64 0, .int .u64 0, .int .u64 0, .int .u64 0, .int .u64 0, .string ⟨#[]⟩, .int .u64 0, .int .u64 0, .int .u64 0, .int .u64 0] 119)
  have HL := Lib.hid hl
  have eN := enterN
  have eT := enterT
  have eW := enterW
  clear h hl
  unfold fN fT fW
  go_enter Tryz.func151, Tryz.ntmps151
  go_wp2_with fail
  refine (number_f G0.out.fd HL.out).mono ?_
  rintro e w1 ⟨ho, h1⟩
  cases e1 : numO f with
  | none =>
    rw [e1] at h1
    obtain rfl : e = .panicked boom := h1
    exact ⟨rfl, RepR.bad (G0.out.only.trans (ho.mono G0.out.only.size (fun _ _ k => k))) rfl (fun b hw hb hf => by
      rw [hf, (rep1_steps hw).1] at e1; cases e1)⟩
  | some q =>
    obtain ⟨v1, f1⟩ := q
    rw [e1] at h1
    obtain ⟨rfl, hf1⟩ := h1
    obtain ⟨n1, rfl, hn1, hl1⟩ := numO_some e1
    have G1 := Lib.hid (G0.out.step ho hf1)
    have HL1 := Lib.hid (show f1.enc.length ≤ 70000 by have := HL.out; omega)
    have E1 := Lib.hid e1
    have HN1 := Lib.hid hn1; clear hn1
    clear ho hf1 hl1 e1 G0
    go_wp2_with fail
    refine (number_f G1.out.fd HL1.out).mono ?_
    rintro e w2 ⟨ho, h1⟩
    cases e2 : numO f1 with
    | none =>
      rw [e2] at h1
      obtain rfl : e = .panicked boom := h1
      exact ⟨rfl, RepR.bad (G1.out.only.trans (ho.mono G1.out.only.size (fun _ _ k => k))) rfl (fun b hw hb hf => by
        have h1 := E1.out
        rw [hf, (rep1_steps hw).1] at h1
        simp only [Option.some.injEq, Prod.mk.injEq] at h1
        rw [← h1.2, (rep1_steps hw).2.1] at e2; cases e2)⟩
    | some q =>
      obtain ⟨v2, f2⟩ := q
      rw [e2] at h1
      obtain ⟨rfl, hf1⟩ := h1
      obtain ⟨n2, rfl, hn2, hl1⟩ := numO_some e2
      have G2 := Lib.hid (G1.out.step ho hf1)
      have HL2 := Lib.hid (show f2.enc.length ≤ 70000 by have := HL1.out; omega)
      have E2 := Lib.hid e2
      have HN2 := Lib.hid hn2; clear hn2
      clear ho hf1 hl1 e2 G1
      go_wp2_with fail
      refine (word_f G2.out.fd HL2.out).mono ?_
      rintro e w3 ⟨ho, h1⟩
      cases e3 : wordO f2 with
      | none =>
        rw [e3] at h1
        obtain rfl : e = .panicked boom := h1
        exact ⟨rfl, RepR.bad (G2.out.only.trans (ho.mono G2.out.only.size (fun _ _ k => k))) rfl (fun b hw hb hf => by
          have h1 := E1.out
          rw [hf, (rep1_steps hw).1] at h1
          simp only [Option.some.injEq, Prod.mk.injEq] at h1
          have h2 := E2.out
          rw [← h1.2, (rep1_steps hw).2.1] at h2
          simp only [Option.some.injEq, Prod.mk.injEq] at h2
          rw [← h2.2, (rep1_steps hw).2.2.1] at e3; cases e3)⟩
      | some q =>
        obtain ⟨v3, f3⟩ := q
        rw [e3] at h1
        obtain ⟨rfl, hf1⟩ := h1
        obtain ⟨n3, rfl, hn3⟩ := wordO_some e3; have hl1 := wordO_len e3
        have G3 := Lib.hid (G2.out.step ho hf1)
        have HL3 := Lib.hid (show f3.enc.length ≤ 70000 by have := HL2.out; omega)
        have E3 := Lib.hid e3
        have HN3 := Lib.hid hn3; clear hn3
        clear ho hf1 hl1 e3 G2
        unfold wordV
        go_wp2_with fail
        refine (text_f G3.out.fd HL3.out).mono ?_
        rintro e w4 ⟨ho, h1⟩
        cases e4 : textO f3 with
        | none =>
          rw [e4] at h1
          obtain rfl : e = .panicked boom := h1
          exact ⟨rfl, RepR.bad (G3.out.only.trans (ho.mono G3.out.only.size (fun _ _ k => k))) rfl (fun b hw hb hf => by
            have h1 := E1.out
            rw [hf, (rep1_steps hw).1] at h1
            simp only [Option.some.injEq, Prod.mk.injEq] at h1
            have h2 := E2.out
            rw [← h1.2, (rep1_steps hw).2.1] at h2
            simp only [Option.some.injEq, Prod.mk.injEq] at h2
            have h3 := E3.out
            rw [← h2.2, (rep1_steps hw).2.2.1] at h3
            simp only [Option.some.injEq, Prod.mk.injEq] at h3
            rw [← h3.2, (rep1_steps hw).2.2.2] at e4; cases e4)⟩
        | some q =>
          obtain ⟨v4, f4⟩ := q
          rw [e4] at h1
          obtain ⟨rfl, hf1⟩ := h1
          obtain ⟨t4, rfl, hl1⟩ := textO_some e4
          have G4 := Lib.hid (G3.out.step ho hf1)
          have HL4 := Lib.hid (show f4.enc.length ≤ 70000 by have := HL3.out; omega)
          have E4 := Lib.hid e4
          skip
          clear ho hf1 hl1 e4 G3
          obtain ⟨⟨b0, b1, b2, b3, b4, b5, b6, b7, b8, b9, b10⟩, y0, y1, y2, y3, y4, y5, y6, y7, y8, y9, y10⟩ := cells11 G4.out.box
          have HF := Lib.hid (And.intro G4.out.box G4.out.only)
          clear G4
          try unfold wordV
          go_wp2_with fail
          refine bodyPost_ret (results_cell_row Tryz.results151 _ _ _ _ _ _ _ rfl (set11 HF.out.1 _ _ _ _ _ _ _ _ _ _ _) Tryz.underlying119 rfl (by kernel_rfl)) rfl (RepR.good ⟨n1, n2, n3, t4, 0⟩ (HF.out.2.set11 (Nat.le_refl _) _ _ _ _ _ _ _ _ _ _ _) (by unfold replyV; simp [lim_zero]; try rfl) ⟨HN1.out, HN2.out, HN3.out, (show 0 < W256 by decide)⟩ ?_)
          intro b hw hb hf
          have h1 := E1.out
          rw [hf, (rep1_steps hw).1] at h1
          simp only [Option.some.injEq, Prod.mk.injEq] at h1
          have h2 := E2.out
          rw [← h1.2, (rep1_steps hw).2.1] at h2
          simp only [Option.some.injEq, Prod.mk.injEq] at h2
          have h3 := E3.out
          rw [← h2.2, (rep1_steps hw).2.2.1] at h3
          simp only [Option.some.injEq, Prod.mk.injEq] at h3
          have h4 := E4.out
          rw [← h3.2, (rep1_steps hw).2.2.2] at h4
          simp only [Option.some.injEq, Prod.mk.injEq] at h4
          have q1 : n1 = b.id := by have := h1.1; simp only [Value.int.injEq, true_and, Int.natCast_inj] at this; exact this.symm
          have q2 : n2 = b.nonce := by have := h2.1; simp only [Value.int.injEq, true_and, Int.natCast_inj] at this; exact this.symm
          have q3 := wordV_inj HN3.out hw.bal h3.1.symm
          have q4 : t4 = b.code := by have := h4.1; simp only [Value.string.injEq] at this; exact (str_inj this).symm
          have q5 : b.value = 0 := by rcases hb.2 with h | h; exact h.2; exact absurd h.1 (by decide)
          obtain ⟨i, nn, bl, cd, vl⟩ := b
          simp only at q1 q2 q3 q4 q5
          rw [q1, q2, q3, q4, q5]
set_option maxRecDepth 100000 in
set_option maxHeartbeats 4000000 in
theorem value_c {S : Nat → Prop} {g : Nat} {f : Fo} {w : World} {kind : Int} (hk : kind ≠ 1) (h : Fd S g f w) (hl : f.enc.length ≤ 70000) : Calls Tryz.prog 150 #[fN g, fT g, fW g] w fun e w' => RepR kind g f w e w' := by
  have G0 := Lib.hid (Gt.start h #[.int .u64 0, .int .u64 0, .int .u64 0, .int .u64 0, .int .u64 0, .int .u64 0, .string ⟨#[]⟩, .int .u64 0, .int .u64 0, .int .u64 0, .int .u64 0] 119)
  have HL := Lib.hid hl
  have eN := enterN
  have eT := enterT
  have eW := enterW
  clear h hl
  unfold fN fT fW
  go_enter Tryz.func150, Tryz.ntmps150
  go_wp2_with fail
  refine (number_f G0.out.fd HL.out).mono ?_
  rintro e w1 ⟨ho, h1⟩
  cases e1 : numO f with
  | none =>
    rw [e1] at h1
    obtain rfl : e = .panicked boom := h1
    exact ⟨rfl, RepR.bad (G0.out.only.trans (ho.mono G0.out.only.size (fun _ _ k => k))) rfl (fun b hw hb hf => by
      rw [hf, (rep2_steps hk hw).1] at e1; cases e1)⟩
  | some q =>
    obtain ⟨v1, f1⟩ := q
    rw [e1] at h1
    obtain ⟨rfl, hf1⟩ := h1
    obtain ⟨n1, rfl, hn1, hl1⟩ := numO_some e1
    have G1 := Lib.hid (G0.out.step ho hf1)
    have HL1 := Lib.hid (show f1.enc.length ≤ 70000 by have := HL.out; omega)
    have E1 := Lib.hid e1
    have HN1 := Lib.hid hn1; clear hn1
    clear ho hf1 hl1 e1 G0
    go_wp2_with fail
    refine (word_f G1.out.fd HL1.out).mono ?_
    rintro e w2 ⟨ho, h1⟩
    cases e2 : wordO f1 with
    | none =>
      rw [e2] at h1
      obtain rfl : e = .panicked boom := h1
      exact ⟨rfl, RepR.bad (G1.out.only.trans (ho.mono G1.out.only.size (fun _ _ k => k))) rfl (fun b hw hb hf => by
        have h1 := E1.out
        rw [hf, (rep2_steps hk hw).1] at h1
        simp only [Option.some.injEq, Prod.mk.injEq] at h1
        rw [← h1.2, (rep2_steps hk hw).2] at e2; cases e2)⟩
    | some q =>
      obtain ⟨v2, f2⟩ := q
      rw [e2] at h1
      obtain ⟨rfl, hf1⟩ := h1
      obtain ⟨n2, rfl, hn2⟩ := wordO_some e2; have hl1 := wordO_len e2
      have G2 := Lib.hid (G1.out.step ho hf1)
      have HL2 := Lib.hid (show f2.enc.length ≤ 70000 by have := HL1.out; omega)
      have E2 := Lib.hid e2
      have HN2 := Lib.hid hn2; clear hn2
      clear ho hf1 hl1 e2 G1
      obtain ⟨⟨b0, b1, b2, b3, b4, b5, b6, b7, b8, b9, b10⟩, y0, y1, y2, y3, y4, y5, y6, y7, y8, y9, y10⟩ := cells11 G2.out.box
      have HF := Lib.hid (And.intro G2.out.box G2.out.only)
      clear G2
      try unfold wordV
      go_wp2_with fail
      refine bodyPost_ret (results_cell_row Tryz.results150 _ _ _ _ _ _ _ rfl (set11 HF.out.1 _ _ _ _ _ _ _ _ _ _ _) Tryz.underlying119 rfl (by kernel_rfl)) rfl (RepR.good ⟨n1, 0, 0, [], n2⟩ (HF.out.2.set11 (Nat.le_refl _) _ _ _ _ _ _ _ _ _ _ _) (by unfold replyV; simp [lim_zero]; try rfl) ⟨HN1.out, (show 0 < M64 by decide), (show 0 < W256 by decide), HN2.out⟩ ?_)
      intro b hw hb hf
      have h1 := E1.out
      rw [hf, (rep2_steps hk hw).1] at h1
      simp only [Option.some.injEq, Prod.mk.injEq] at h1
      have h2 := E2.out
      rw [← h1.2, (rep2_steps hk hw).2] at h2
      simp only [Option.some.injEq, Prod.mk.injEq] at h2
      have q1 : n1 = b.id := by have := h1.1; simp only [Value.int.injEq, true_and, Int.natCast_inj] at this; exact this.symm
      have q3 := wordV_inj HN2.out hw.value h2.1.symm
      have q5 : b.nonce = 0 ∧ b.bal = 0 ∧ b.code = [] := by rcases hb.2 with h | h; exact absurd h.1 hk; exact h.2
      obtain ⟨i, nn, bl, cd, vl⟩ := b
      simp only at q1 q3 q5
      rw [q1, q3, q5.1, q5.2.1, q5.2.2]
end Go.Proofs.YtekoaheiapddiaaGreat
end
