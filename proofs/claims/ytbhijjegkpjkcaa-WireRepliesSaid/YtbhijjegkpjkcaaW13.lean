/- Merged: Vl, Vm, Vn, Vo, Vp, Vq, Vr. -/
import Derived.Test.YtbhijjegkpjkcaaW11
import Derived.Test.YtbhijjegkpjkcaaW12
import Derived.Test.YtbhijjegkpjkcaaW07
section
namespace Go.Proofs.Ytbhijjegkpjkcaa
open Go.RowKit

set_option maxRecDepth 100000 in
set_option maxHeartbeats 2000000 in
theorem rcatch_panicking (a b : Nat) (v0 v1 v2 v3 v4 v5 v6 v7 v8 v9 v10 v : Value) (u : TypeId) (pv : Value) (older : List PanicEntry) (w : World) (ha : w.heap[a]? = some (.cells #[v0, v1, v2, v3, v4, v5, v6, v7, v8, v9, v10] 42 (0, 0))) (hb : w.heap[b]? = some (.cells #[v] 4 (0, 0))) (hab : a ≠ b) :
    CallsD Try.prog 54 #[.pointer (some ⟨a, 0, none⟩), .pointer (some ⟨b, 0, none⟩)] (.panicking ({ v := .iface u pv, recovered := false } :: older)) w fun e u' w' =>
      e = .returned (.tuple #[]) ∧ u' = .panicking ({ v := .iface u pv, recovered := true } :: older) ∧
        w' = ((((((((((((w.alloc (.cells #[.int .u64 0, .int .u64 0, .int .u64 0, .int .u64 0, .int .u64 0, .int .u64 0, .string ⟨#[]⟩, .int .u64 0, .int .u64 0, .int .u64 0, .int .u64 0] 42)).setCell ⟨a, 0, none⟩ (.int .u64 0)).setCell ⟨a, 1, none⟩ (.int .u64 0)).setCell ⟨a, 2, none⟩ (.int .u64 0)).setCell ⟨a, 3, none⟩ (.int .u64 0)).setCell ⟨a, 4, none⟩ (.int .u64 0)).setCell ⟨a, 5, none⟩ (.int .u64 0)).setCell ⟨a, 6, none⟩ (.string ⟨#[]⟩)).setCell ⟨a, 7, none⟩ (.int .u64 0)).setCell ⟨a, 8, none⟩ (.int .u64 0)).setCell ⟨a, 9, none⟩ (.int .u64 0)).setCell ⟨a, 10, none⟩ (.int .u64 0)).setCell ⟨b, 0, none⟩ (.bool false) := by
  have ha' := (Below.heap_alloc w (.cells #[.int .u64 0, .int .u64 0, .int .u64 0, .int .u64 0, .int .u64 0, .int .u64 0, .string ⟨#[]⟩, .int .u64 0, .int .u64 0, .int .u64 0, .int .u64 0] 42) _ (lt_of ha)).trans ha
  have hb' := (Below.heap_alloc w (.cells #[.int .u64 0, .int .u64 0, .int .u64 0, .int .u64 0, .int .u64 0, .int .u64 0, .string ⟨#[]⟩, .int .u64 0, .int .u64 0, .int .u64 0, .int .u64 0] 42) _ (lt_of hb)).trans hb
  have hn := heap_alloc_new w (.cells #[.int .u64 0, .int .u64 0, .int .u64 0, .int .u64 0, .int .u64 0, .int .u64 0, .string ⟨#[]⟩, .int .u64 0, .int .u64 0, .int .u64 0, .int .u64 0] 42)
  obtain ⟨⟨c0, c1, c2, c3, c4, c5, c6, c7, c8, c9, c10⟩, z0, z1, z2, z3, z4, z5, z6, z7, z8, z9, z10⟩ := cells11 ha'
  obtain ⟨⟨d0, d1, d2, d3, d4, d5, d6, d7, d8, d9, d10⟩, _⟩ := cells11 hn
  have cb := cell_of hb' 0
  have zb := free_of hb' 0
  refine callsD_of_wpS Try.func54 rfl fun c₀ cs hu => ?_
  apply wpS_seq
  apply wpS_region
  simp [wpOpsS, go_sem, recoverD, hu, Try.ntmps54, Exit.thenS]
  refine wpS_cond (t := true) (by simp [Act.eval, Array.replicate]) ?_
  simp only [if_true]
  have cb' : (w.alloc (.cells #[.int .u64 0, .int .u64 0, .int .u64 0, .int .u64 0, .int .u64 0, .int .u64 0, .string ⟨#[]⟩, .int .u64 0, .int .u64 0, .int .u64 0, .int .u64 0] 42)).cell? ⟨b, 0, none⟩ = some v := cb
  have hab' : ¬ b = a := fun e => hab e.symm
  clear ha hb ha' hb' hn
  first | apply wpS_seq | skip
  apply wpS_region
  simp [wpOpsS, go_sem, Exit.thenS]
  try apply wpS_region
  simp [wpOpsS, go_sem, c0, c1, c2, c3, c4, c5, c6, c7, c8, c9, c10, z0, z1, z2, z3, z4, z5, z6, z7, z8, z9, z10, d0, d1, d2, d3, d4, d5, d6, d7, d8, d9, d10, cb', zb, bodyPostS, results, Try.results54]
theorem rcatch_idle (p q : Value) (w : World) :
    CallsD Try.prog 54 #[p, q] .returning w fun e u' w' => e = .returned (.tuple #[]) ∧ u' = .returning ∧ w' = w := by
  refine callsD_of_wpS Try.func54 rfl fun c₀ cs hu => ?_
  apply wpS_seq
  apply wpS_region
  simp [wpOpsS, go_sem, recoverD, hu, Try.ntmps54, Exit.thenS]
  refine wpS_cond (t := false) (by simp [Act.eval, Array.replicate]) ?_
  simp only [Bool.false_eq_true, if_false]
  refine wpS_of_wp (wp_skip ?_)
  cases c₀
  simp_all [bodyPostS, results, Try.results54]
theorem rr_results (tmps : Array Value) (w : World) (a b : Nat) (v0 v1 v2 v3 v4 v5 v6 v7 v8 v9 v10 v : Value) (hp : tmps.getD 8 undef = .pointer (some ⟨a, 0, none⟩)) (hq : tmps.getD 9 undef = .pointer (some ⟨b, 0, none⟩)) (ha : w.heap[a]? = some (.cells #[v0, v1, v2, v3, v4, v5, v6, v7, v8, v9, v10] 42 (0, 0))) (hb : w.heap[b]? = some (.cells #[v] 4 (0, 0))) :
    (results Try.f36 tmps).run Try.prog w = .ok (.tuple #[.agg #[v0, v1, v2, v3, v4, v5, v6, v7, v8, v9, v10], v]) w := by
  obtain ⟨⟨c0, c1, c2, c3, c4, c5, c6, c7, c8, c9, c10⟩, _⟩ := cells11 ha
  have cb : w.cell? ⟨b, 0, none⟩ = some v := cell_of hb 0
  have hp' : tmps[8]?.getD undef = .pointer (some ⟨a, 0, none⟩) := by simpa using hp
  have hq' : tmps[9]?.getD undef = .pointer (some ⟨b, 0, none⟩) := by simpa using hq
  simp [results, Try.results36, hp', hq', go_sem, c0, c1, c2, c3, c4, c5, c6, c7, c8, c9, c10, cb]
/-- Both results' boxes, as the call goes on. -/
structure Rb (w : World) (cs : Array Value) (v : Value) (V : World) : Prop where
  below : Below w.heap.size w V
  got : V.heap[w.heap.size]? = some (.cells cs 42 (0, 0))
  ok : V.heap[w.heap.size + 1]? = some (.cells #[v] 4 (0, 0))
section
variable {w V V' : World} {cs : Array Value} {v : Value}
theorem Rb.call (h : Rb w cs v V) (hb : Below V.heap.size V V') : Rb w cs v V' := ⟨h.below.trans (hb.mono h.below.size), (hb.block _ (lt_of h.got)).trans h.got, (hb.block _ (lt_of h.ok)).trans h.ok⟩
theorem Rb.only {g : Nat} (h : Rb w cs v V) (hg : w.heap.size + 1 < g) (ho : Only (fun k => k = g) V.heap.size V V') : Rb w cs v V' :=
  ⟨h.below.trans (Only.below (ho.mono (B' := w.heap.size) h.below.size (fun _ _ k => k)) (Nat.le_refl _) (fun k hk e => by omega)), (ho.block _ (lt_of h.got) (by omega)).trans h.got, (ho.block _ (lt_of h.ok) (by omega)).trans h.ok⟩
theorem Rb.start (w : World) (cs : Array Value) (v : Value) : Rb w cs v ((w.alloc (.cells cs 42)).alloc (.cells #[v] 4)) :=
  ⟨((Below.refl _ _).alloc (Nat.le_refl _) _).alloc (by simp) _, heap_alloc2_old w _ _, heap_alloc2_new w _ _⟩
theorem Rb.put {v0 v1 v2 v3 v4 v5 v6 v7 v8 v9 v10 : Value} (h : Rb w #[v0, v1, v2, v3, v4, v5, v6, v7, v8, v9, v10] v V) (u0 u1 u2 u3 u4 u5 u6 u7 u8 u9 u10 : Value) : Rb w #[u0, u1, u2, u3, u4, u5, u6, u7, u8, u9, u10] v (((((((((((V.setCell ⟨w.heap.size, 0, none⟩ u0).setCell ⟨w.heap.size, 1, none⟩ u1).setCell ⟨w.heap.size, 2, none⟩ u2).setCell ⟨w.heap.size, 3, none⟩ u3).setCell ⟨w.heap.size, 4, none⟩ u4).setCell ⟨w.heap.size, 5, none⟩ u5).setCell ⟨w.heap.size, 6, none⟩ u6).setCell ⟨w.heap.size, 7, none⟩ u7).setCell ⟨w.heap.size, 8, none⟩ u8).setCell ⟨w.heap.size, 9, none⟩ u9).setCell ⟨w.heap.size, 10, none⟩ u10) := by
  refine ⟨Below.set11 h.below (Nat.le_refl _) u0 u1 u2 u3 u4 u5 u6 u7 u8 u9 u10, set11 h.got u0 u1 u2 u3 u4 u5 u6 u7 u8 u9 u10, ?_⟩
  rw [heap_setCell_other _ _ _ _ (by simp), heap_setCell_other _ _ _ _ (by simp), heap_setCell_other _ _ _ _ (by simp), heap_setCell_other _ _ _ _ (by simp), heap_setCell_other _ _ _ _ (by simp), heap_setCell_other _ _ _ _ (by simp), heap_setCell_other _ _ _ _ (by simp), heap_setCell_other _ _ _ _ (by simp), heap_setCell_other _ _ _ _ (by simp), heap_setCell_other _ _ _ _ (by simp), heap_setCell_other _ _ _ _ (by simp)]
  exact h.ok
theorem Rb.flag (h : Rb w cs v V) (u : Value) : Rb w cs u (V.setCell ⟨w.heap.size + 1, 0, none⟩ u) := by
  refine ⟨h.below.setCell (p := ⟨w.heap.size + 1, 0, none⟩) (by simp) _, (heap_setCell_other _ _ _ _ (by simp)).trans h.got, ?_⟩
  have e := heap_setCell_same _ _ 0 _ _ u h.ok
  simpa using e
theorem Rb.caught {v0 v1 v2 v3 v4 v5 v6 v7 v8 v9 v10 : Value} (h : Rb w #[v0, v1, v2, v3, v4, v5, v6, v7, v8, v9, v10] v V) : Rb w #[.int .u64 0, .int .u64 0, .int .u64 0, .int .u64 0, .int .u64 0, .int .u64 0, .string ⟨#[]⟩, .int .u64 0, .int .u64 0, .int .u64 0, .int .u64 0] (.bool false) (((((((((((((V.alloc (.cells #[.int .u64 0, .int .u64 0, .int .u64 0, .int .u64 0, .int .u64 0, .int .u64 0, .string ⟨#[]⟩, .int .u64 0, .int .u64 0, .int .u64 0, .int .u64 0] 42)).setCell ⟨w.heap.size, 0, none⟩ (.int .u64 0)).setCell ⟨w.heap.size, 1, none⟩ (.int .u64 0)).setCell ⟨w.heap.size, 2, none⟩ (.int .u64 0)).setCell ⟨w.heap.size, 3, none⟩ (.int .u64 0)).setCell ⟨w.heap.size, 4, none⟩ (.int .u64 0)).setCell ⟨w.heap.size, 5, none⟩ (.int .u64 0)).setCell ⟨w.heap.size, 6, none⟩ (.string ⟨#[]⟩)).setCell ⟨w.heap.size, 7, none⟩ (.int .u64 0)).setCell ⟨w.heap.size, 8, none⟩ (.int .u64 0)).setCell ⟨w.heap.size, 9, none⟩ (.int .u64 0)).setCell ⟨w.heap.size, 10, none⟩ (.int .u64 0)).setCell ⟨w.heap.size + 1, 0, none⟩ (.bool false)) :=
  ((h.call ((Below.refl _ _).alloc (Nat.le_refl _) _)).put _ _ _ _ _ _ _ _ _ _ _).flag _
end
/-- What GetReply answers. -/
def replyO : Option ReplyP → Value
  | none => .tuple #[.agg #[.int .u64 0, .int .u64 0, .int .u64 0, .int .u64 0, .int .u64 0, .int .u64 0, .string ⟨#[]⟩, .int .u64 0, .int .u64 0, .int .u64 0, .int .u64 0], .bool false]
  | some a => .tuple #[replyV a, .bool true]
def GetReplyR (kind : Int) (s : List UInt8) (w : World) (e : Ending) (w' : World) : Prop := ∃ o, ReplyIs kind s o ∧ e = .returned (replyO o) ∧ Below w.heap.size w w'
theorem enterQ (args : Array Value) (w : World) : (callFunc 37 args).run Try.prog w = .ok (.enter 37 args) w := enters_of Try.func37 (by kernel_rfl) rfl args w
theorem enterV (args : Array Value) (w : World) : (callFunc 34 args).run Try.prog w = .ok (.enter 34 args) w := enters_of Try.func34 (by kernel_rfl) rfl args w
theorem enterC (args : Array Value) (w : World) : (callFunc 35 args).run Try.prog w = .ok (.enter 35 args) w := enters_of Try.func35 (by kernel_rfl) rfl args w
set_option maxRecDepth 100000 in
theorem putQ_c (kind : Int) {a : ReplyP} (hw : a.Wf) (kb : Nat) (w : World) (hk : w.heap[kb]? = some (.cells #[.int .i64 kind] 3 (0, 0))) : Calls Try.prog 37 #[replyV a, .pointer (some ⟨kb, 0, none⟩)] w fun e w' => e = .returned (putReplyV kind a) ∧ Below w.heap.size w w' := by
  have hal : Below w.heap.size w (w.alloc (.cells #[.int .u64 a.id, .int .u64 a.nonce, .int .u64 (l3 a.bal : Nat), .int .u64 (l2 a.bal : Nat), .int .u64 (l1 a.bal : Nat), .int .u64 (l0 a.bal : Nat), .string (str a.code), .int .u64 (l3 a.value : Nat), .int .u64 (l2 a.value : Nat), .int .u64 (l1 a.value : Nat), .int .u64 (l0 a.value : Nat)] 42)) := (Below.refl _ _).alloc (Nat.le_refl _) _
  have c0 := cell_of ((hal.block _ (lt_of hk)).trans hk) 0
  have C := Lib.hid (fun V => putReply_c kind hw V)
  have H := Lib.hid hal
  unfold replyV at C ⊢
  unfold putReplyV at *
  clear hw hk hal
  generalize decide (a.Ok kind) = ok at *
  generalize str (if a.Ok kind then a.enc kind else []) = z at *
  go_enter Try.func37, Try.ntmps37
  go_wp2_with fail
  refine (C.out _).mono ?_
  rintro e w1 ⟨rfl, hb⟩
  have HB := Lib.hid (H.out.trans (hb.mono (by simp)))
  clear hb C H
  go_wp2_with fail
  go_ret2
  exact ⟨rfl, HB.out⟩
set_option maxRecDepth 100000 in
set_option maxHeartbeats 4000000 in
theorem readReply_c (kind : Int) (Fn9 : FuncId) (hen : ∀ (args : Array Value) (w : World), (callFunc Fn9 args).run Try.prog w = .ok (.enter Fn9 args) w)
    (hF : ∀ {S : Nat → Prop} {g : Nat} {f : Fo} {w : World}, Fd S g f w → f.enc.length ≤ 70000 → Calls Try.prog Fn9 #[fN g, fT g, fW g] w fun e w' => RepR kind g f w e w')
    (s : List UInt8) (kb : Nat) (w : World) (hkb : w.heap[kb]? = some (.cells #[.int .i64 kind] 3 (0, 0))) : Calls Try.prog 36 #[.string (str s), .int .i64 4, .func (.func Fn9) #[] #[], .func (.func 37) #[] #[.pointer (some ⟨kb, 0, none⟩)]] w fun e w' => GetReplyR kind s w e w' := by
  have hsl : (str s).extract 4 (str s).size = str (s.drop 4) := str_drop s 4
  have hsz := str_size s
  have HD := Lib.hid (fun V => decode_n (s.drop 4) V)
  have hm := hmf
  have A0 := Lib.hid (Rb.start w #[.int .u64 0, .int .u64 0, .int .u64 0, .int .u64 0, .int .u64 0, .int .u64 0, .string ⟨#[]⟩, .int .u64 0, .int .u64 0, .int .u64 0, .int .u64 0] (.bool false))
  have HT := Lib.hid (str_eq · s)
  have HK := Lib.hid (And.intro hkb (lt_of hkb))
  have enQ := enterQ
  have HX0 := Lib.hid (fun (a : ReplyP) (hw : a.Wf) (ho : a.Ok kind) (h : a.enc kind = s) => show decV (s.drop 4) = (a.it kind, 0) from by
    have hbd : s.drop 4 = a.body kind := by rw [← h, ReplyP.body_of]
    exact decV_of hbd.symm (by have := ReplyP.body_len hw ho; unfold ReplyP.body at this; omega) (a.dep kind))
  have HL4 := Lib.hid (fun (a : ReplyP) (h : a.enc kind = s) => show 4 ≤ s.length from by rw [← h]; unfold ReplyP.enc; rw [List.length_append, sum4_len]; omega)
  generalize str (s.drop 4) = y4 at *
  generalize hst : str s = y at *
  have HS := Lib.hid hst
  clear hst hkb
  by_cases h4 : 4 ≤ s.length
  · have hz4 : (4 : Int) ≤ (y.size : Int) := by omega
    have hz5 : 4 ≤ y.size := by omega
    clear hsz
    go_enter_defers Try.func36, Try.ntmps36
    go_wp2_with fail
    refine (wmust_ok _).mono ?_
    rintro e w1 ⟨rfl, rfl⟩
    go_wp2_with fail
    refine (HD.out _).mono ?_
    rintro e w2 ⟨v, rfl, hv, hb⟩
    obtain ⟨b2, t2, u2, rfl, hi⟩ := SlF_inner hv
    obtain ⟨a2, n2, c2, rfl⟩ := hi.form
    have A2 := Lib.hid (A0.out.call hb)
    have hs2 := hb.size
    simp only [alloc_size] at hs2 hi
    clear hv hb A0 HD
    by_cases her : (decV (s.drop 4)).2 = 0
    · have hen2 := decV_ok her
      have hil := inner_len (decV (s.drop 4)).1
      have hle : (decV (s.drop 4)).1.enc.length ≤ 65536 := decV_enc (s.drop 4)
      have HX := Lib.hid (fun (a : ReplyP) (hw : a.Wf) (ho : a.Ok kind) (h : a.enc kind = s) => show (decV (s.drop 4)).1.inner = a.fo kind from by rw [HX0.out a hw ho h]; rfl)
      have HI := Lib.hid (And.intro hi (show (decV (s.drop 4)).1.inner.enc.length ≤ 70000 by omega))
      rw [her]
      clear her hen2 hil hle hi
      generalize (decV (s.drop 4)).1.inner = f at *
      obtain ⟨W3, hW3⟩ : ∃ W3, W3 = (w2.alloc (.cells #[.bool b2, .string t2, .slice a2 n2 c2] 58)).alloc (.cells #[.slice a2 n2 c2] 97) := ⟨_, rfl⟩
      have hb3 : Below w2.heap.size w2 W3 := by rw [hW3]; exact ((Below.refl _ _).alloc (Nat.le_refl _) _).alloc (by simp) _
      have A3 := Lib.hid (A2.out.call hb3)
      have hfd : Fd (fun k => w.heap.size + 1 + 1 ≤ k ∧ k < w2.heap.size) (w2.heap.size + 1) f W3 := by
        refine ⟨fun k hk => ⟨by have := hb3.size; omega, by omega⟩, _, by rw [hW3]; exact heap_alloc2_new _ _ _, HI.out.1.kept fun k hk => hb3.block k hk.2⟩
      have HA := Lib.hid (hF hfd HI.out.2)
      have HW := Lib.hid hW3
      clear hb3 hfd hW3
      unfold fN fT fW at HA
      go_wp2_with fail
      refine (wmust_ok _).mono ?_
      rintro e w4 ⟨rfl, rfl⟩
      go_wp2_with fail
      rw [← HW.out]
      refine HA.out.mono ?_
      rintro e w5 ⟨ho, hr⟩
      have A5 := Lib.hid (A3.out.only (by omega) ho)
      clear ho A3 HA HI
      rcases hr with ⟨rfl, hno⟩ | ⟨a, rfl, haw, hone⟩
      · have HN := Lib.hid (show ReplyIs kind s none from fun a hw ho h => hno a hw ho (HX.out a hw ho h))
        clear hno HX
        refine leaves_cons (f := 54) (args := #[.pointer (some ⟨w.heap.size, 0, none⟩), .pointer (some ⟨w.heap.size + 1, 0, none⟩)]) (by simp) (by simp [go_sem]) ?_
        refine (rcatch_panicking w.heap.size (w.heap.size + 1) _ _ _ _ _ _ _ _ _ _ _ _ 93 (.int .i64 2) [] _ A5.out.got A5.out.ok (by omega)).mono ?_
        rintro e u' w'' ⟨rfl, rfl, rfl⟩
        refine ⟨_, rr_results _ _ w.heap.size (w.heap.size + 1) _ _ _ _ _ _ _ _ _ _ _ _ rfl rfl A5.out.caught.got A5.out.caught.ok, ?_⟩
        exact ⟨none, HN.out, rfl, A5.out.caught.below⟩
      · have HN := Lib.hid (show ¬ (a.Ok kind ∧ a.enc kind = s) → ReplyIs kind s none from fun hn b hw ho h => hn (by
          have := hone b hw ho (HX.out b hw ho h)
          subst this
          exact ⟨ho, h⟩))
        obtain ⟨⟨c0, c1, c2, c3, c4, c5, c6, c7, c8, c9, c10⟩, z0, z1, z2, z3, z4, z5, z6, z7, z8, z9, z10⟩ := cells11 A5.out.got
        have A6 := A5.out.put (.int .u64 a.id) (.int .u64 a.nonce) (.int .u64 (l3 a.bal : Nat)) (.int .u64 (l2 a.bal : Nat)) (.int .u64 (l1 a.bal : Nat)) (.int .u64 (l0 a.bal : Nat)) (.string (str a.code)) (.int .u64 (l3 a.value : Nat)) (.int .u64 (l2 a.value : Nat)) (.int .u64 (l1 a.value : Nat)) (.int .u64 (l0 a.value : Nat))
        obtain ⟨⟨d0, d1, d2, d3, d4, d5, d6, d7, d8, d9, d10⟩, _⟩ := cells11 A6.got
        have H6 := Lib.hid A6
        have HP := Lib.hid (putQ_c kind haw kb _ ((A6.below.block _ HK.out.2).trans HK.out.1))
        have HWa := Lib.hid haw
        clear hone haw HX A6
        unfold replyV at HP ⊢
        go_wp2_with fail
        refine HP.out.mono ?_
        rintro e w7 ⟨rfl, hb7⟩
        have A7 := Lib.hid (H6.out.call hb7)
        clear hb7 HP H6 c0 c1 c2 c3 c4 c5 c6 c7 c8 c9 c10 z0 z1 z2 z3 z4 z5 z6 z7 z8 z9 z10 d0 d1 d2 d3 d4 d5 d6 d7 d8 d9 d10
        have q0 := cell_of A7.out.ok 0
        have q1 := free_of A7.out.ok 0
        by_cases hok : a.Ok kind
        · rw [putReplyV_ok hok]
          have A8 := Lib.hid (A7.out.flag (.bool true))
          have q2 := cell_of A8.out.ok 0
          by_cases he : a.enc kind = s
          · have hcmp : ((str (a.enc kind)).toList == y.toList) = true := by rw [HT.out, he]; simp
            have HO := Lib.hid (show ReplyIs kind s (some a) from ⟨HWa.out, hok, he⟩)
            clear hok he HN
            generalize str (a.enc kind) = z at *
            go_wp2_with fail
            refine (wmust_ok _).mono ?_
            rintro e w9 ⟨rfl, rfl⟩
            obtain ⟨⟨c0, c1, c2, c3, c4, c5, c6, c7, c8, c9, c10⟩, z0, z1, z2, z3, z4, z5, z6, z7, z8, z9, z10⟩ := cells11 A8.out.got
            have A9 := A8.out.put (.int .u64 a.id) (.int .u64 a.nonce) (.int .u64 (l3 a.bal : Nat)) (.int .u64 (l2 a.bal : Nat)) (.int .u64 (l1 a.bal : Nat)) (.int .u64 (l0 a.bal : Nat)) (.string (str a.code)) (.int .u64 (l3 a.value : Nat)) (.int .u64 (l2 a.value : Nat)) (.int .u64 (l1 a.value : Nat)) (.int .u64 (l0 a.value : Nat))
            have q5 := cell_of A9.ok 0
            have q6 := free_of A9.ok 0
            have H9 := Lib.hid (A9.flag (.bool true))
            clear A9 q0 q1 q2
            go_wp2_with fail
            refine leaves_cons (f := 54) (args := #[.pointer (some ⟨w.heap.size, 0, none⟩), .pointer (some ⟨w.heap.size + 1, 0, none⟩)]) (by simp) (by simp [go_sem]) ?_
            refine (rcatch_idle _ _ _).mono ?_
            rintro e u' w'' ⟨rfl, rfl, rfl⟩
            refine ⟨_, rr_results _ _ w.heap.size (w.heap.size + 1) _ _ _ _ _ _ _ _ _ _ _ _ rfl rfl H9.out.got H9.out.ok, ?_⟩
            exact ⟨some a, HO.out, rfl, H9.out.below⟩
          · have hcmp : ((str (a.enc kind)).toList == y.toList) = false := by rw [HT.out]; simp [he]
            have HO := Lib.hid (HN.out (fun h => he h.2))
            clear hok he HN
            generalize str (a.enc kind) = z at *
            go_wp2_with fail
            refine (wmust_no _).mono ?_
            rintro e w9 ⟨rfl, rfl⟩
            refine leaves_cons (f := 54) (args := #[.pointer (some ⟨w.heap.size, 0, none⟩), .pointer (some ⟨w.heap.size + 1, 0, none⟩)]) (by simp) (by simp [go_sem]) ?_
            refine (rcatch_panicking w.heap.size (w.heap.size + 1) _ _ _ _ _ _ _ _ _ _ _ _ 93 (.int .i64 2) [] _ A8.out.got A8.out.ok (by omega)).mono ?_
            rintro e u' w'' ⟨rfl, rfl, rfl⟩
            refine ⟨_, rr_results _ _ w.heap.size (w.heap.size + 1) _ _ _ _ _ _ _ _ _ _ _ _ rfl rfl A8.out.caught.got A8.out.caught.ok, ?_⟩
            exact ⟨none, HO.out, rfl, A8.out.caught.below⟩
        · rw [putReplyV_no hok]
          have A8 := Lib.hid (A7.out.flag (.bool false))
          have q2 := cell_of A8.out.ok 0
          have HO := Lib.hid (HN.out (fun h => hok h.1))
          clear hok HN
          go_wp2_with fail
          refine (wmust_no _).mono ?_
          rintro e w9 ⟨rfl, rfl⟩
          refine leaves_cons (f := 54) (args := #[.pointer (some ⟨w.heap.size, 0, none⟩), .pointer (some ⟨w.heap.size + 1, 0, none⟩)]) (by simp) (by simp [go_sem]) ?_
          refine (rcatch_panicking w.heap.size (w.heap.size + 1) _ _ _ _ _ _ _ _ _ _ _ _ 93 (.int .i64 2) [] _ A8.out.got A8.out.ok (by omega)).mono ?_
          rintro e u' w'' ⟨rfl, rfl, rfl⟩
          refine ⟨_, rr_results _ _ w.heap.size (w.heap.size + 1) _ _ _ _ _ _ _ _ _ _ _ _ rfl rfl A8.out.caught.got A8.out.caught.ok, ?_⟩
          exact ⟨none, HO.out, rfl, A8.out.caught.below⟩
    · have HN := Lib.hid (show ReplyIs kind s none from fun a hw ho h => her (by rw [HX0.out a hw ho h]))
      have heb : ((((decV (s.drop 4)).2 : Nat) : Int) == 0) = false := by rw [beq_eq_false_iff_ne]; omega
      generalize (decV (s.drop 4)).2 = er at *
      have A3 := Lib.hid (A2.out.call ((Below.refl w2.heap.size w2).alloc (Nat.le_refl _) (.cells #[.bool b2, .string t2, .slice a2 n2 c2] 58)))
      clear her hi
      go_wp2_with fail
      refine (wmust_no _).mono ?_
      rintro e w9 ⟨rfl, rfl⟩
      refine leaves_cons (f := 54) (args := #[.pointer (some ⟨w.heap.size, 0, none⟩), .pointer (some ⟨w.heap.size + 1, 0, none⟩)]) (by simp) (by simp [go_sem]) ?_
      refine (rcatch_panicking w.heap.size (w.heap.size + 1) _ _ _ _ _ _ _ _ _ _ _ _ 93 (.int .i64 2) [] _ A3.out.got A3.out.ok (by omega)).mono ?_
      rintro e u' w'' ⟨rfl, rfl, rfl⟩
      refine ⟨_, rr_results _ _ w.heap.size (w.heap.size + 1) _ _ _ _ _ _ _ _ _ _ _ _ rfl rfl A3.out.caught.got A3.out.caught.ok, ?_⟩
      exact ⟨none, HN.out, rfl, A3.out.caught.below⟩
  · have HN := Lib.hid (show ReplyIs kind s none from fun a _ _ h => h4 (HL4.out a h))
    have hz4 : ¬ (4 : Int) ≤ (y.size : Int) := by omega
    clear hsz h4
    go_enter_defers Try.func36, Try.ntmps36
    go_wp2_with fail
    refine (wmust_no _).mono ?_
    rintro e w9 ⟨rfl, rfl⟩
    refine leaves_cons (f := 54) (args := #[.pointer (some ⟨w.heap.size, 0, none⟩), .pointer (some ⟨w.heap.size + 1, 0, none⟩)]) (by simp) (by simp [go_sem]) ?_
    refine (rcatch_panicking w.heap.size (w.heap.size + 1) _ _ _ _ _ _ _ _ _ _ _ _ 93 (.int .i64 2) [] _ A0.out.got A0.out.ok (by omega)).mono ?_
    rintro e u' w'' ⟨rfl, rfl, rfl⟩
    refine ⟨_, rr_results _ _ w.heap.size (w.heap.size + 1) _ _ _ _ _ _ _ _ _ _ _ _ rfl rfl A0.out.caught.got A0.out.caught.ok, ?_⟩
    exact ⟨none, HN.out, rfl, A0.out.caught.below⟩
set_option maxRecDepth 100000 in
set_option maxHeartbeats 2000000 in
theorem getReply_c (kind : Int) (s : List UInt8) (w : World) : Calls Try.prog 17 #[.int .i64 kind, .string (str s)] w fun e w' => GetReplyR kind s w e w' := by
  have hal : Below w.heap.size w ((w.alloc (.cells #[.int .i64 kind] 3)).alloc (.cells #[.int .u64 0, .int .u64 0, .int .u64 0, .int .u64 0, .int .u64 0, .int .u64 0, .string ⟨#[]⟩, .int .u64 0, .int .u64 0, .int .u64 0, .int .u64 0] 42)) := ((Below.refl _ _).alloc (Nat.le_refl _) _).alloc (by simp) _
  have hk0 := heap_alloc2_old w (.cells #[.int .i64 kind] 3) (.cells #[.int .u64 0, .int .u64 0, .int .u64 0, .int .u64 0, .int .u64 0, .int .u64 0, .string ⟨#[]⟩, .int .u64 0, .int .u64 0, .int .u64 0, .int .u64 0] 42)
  have hx := heap_alloc2_new w (.cells #[.int .i64 kind] 3) (.cells #[.int .u64 0, .int .u64 0, .int .u64 0, .int .u64 0, .int .u64 0, .int .u64 0, .string ⟨#[]⟩, .int .u64 0, .int .u64 0, .int .u64 0, .int .u64 0] 42)
  have hm := hmf
  have ck := cell_of hk0 0
  have HA := Lib.hid (And.intro hal (And.intro hk0 hx))
  clear hal hk0 hx
  by_cases hk : kind = 1
  · have C := Lib.hid (fun V hV => readReply_c kind 35 enterC (fun {S g f w} h hl => by rw [hk]; exact account_c h hl) s w.heap.size V hV)
    have hkb : (kind == 1) = true := by simp [hk]
    clear hk
    generalize str s = y at *
    go_enter Try.func17, Try.ntmps17
    go_wp2_with fail
    refine (C.out _ HA.out.2.1).mono ?_
    rintro e w1 ⟨o, ho, rfl, hb⟩
    have kb := (hb.block _ (by simp)).trans HA.out.2.2
    obtain ⟨⟨c0, c1, c2, c3, c4, c5, c6, c7, c8, c9, c10⟩, z0, z1, z2, z3, z4, z5, z6, z7, z8, z9, z10⟩ := cells11 kb
    have HB := Lib.hid (And.intro (HA.out.1.trans (hb.mono (by simp; omega))) kb)
    have HO := Lib.hid ho
    clear hb kb ho HA C ck
    cases o with
    | none =>
      unfold replyO
      go_wp2_with fail
      exact bodyPost_ret (results_cell_slot Try.results17 _ _ _ _ _ _ _ _ rfl rfl (set11 HB.out.2 _ _ _ _ _ _ _ _ _ _ _) Try.underlying42 rfl (by kernel_rfl)) rfl ⟨none, HO.out, rfl, Below.set11 HB.out.1 (by omega) _ _ _ _ _ _ _ _ _ _ _⟩
    | some a =>
      unfold replyO replyV
      go_wp2_with fail
      exact bodyPost_ret (results_cell_slot Try.results17 _ _ _ _ _ _ _ _ rfl rfl (set11 HB.out.2 _ _ _ _ _ _ _ _ _ _ _) Try.underlying42 rfl (by kernel_rfl)) rfl ⟨some a, HO.out, rfl, Below.set11 HB.out.1 (by omega) _ _ _ _ _ _ _ _ _ _ _⟩
  · have C := Lib.hid (fun V hV => readReply_c kind 34 enterV (fun {S g f w} h hl => value_c hk h hl) s w.heap.size V hV)
    have hkb : (kind == 1) = false := by simp [hk]
    clear hk
    generalize str s = y at *
    go_enter Try.func17, Try.ntmps17
    go_wp2_with fail
    refine (C.out _ HA.out.2.1).mono ?_
    rintro e w1 ⟨o, ho, rfl, hb⟩
    have kb := (hb.block _ (by simp)).trans HA.out.2.2
    obtain ⟨⟨c0, c1, c2, c3, c4, c5, c6, c7, c8, c9, c10⟩, z0, z1, z2, z3, z4, z5, z6, z7, z8, z9, z10⟩ := cells11 kb
    have HB := Lib.hid (And.intro (HA.out.1.trans (hb.mono (by simp; omega))) kb)
    have HO := Lib.hid ho
    clear hb kb ho HA C ck
    cases o with
    | none =>
      unfold replyO
      go_wp2_with fail
      exact bodyPost_ret (results_cell_slot Try.results17 _ _ _ _ _ _ _ _ rfl rfl (set11 HB.out.2 _ _ _ _ _ _ _ _ _ _ _) Try.underlying42 rfl (by kernel_rfl)) rfl ⟨none, HO.out, rfl, Below.set11 HB.out.1 (by omega) _ _ _ _ _ _ _ _ _ _ _⟩
    | some a =>
      unfold replyO replyV
      go_wp2_with fail
      exact bodyPost_ret (results_cell_slot Try.results17 _ _ _ _ _ _ _ _ rfl rfl (set11 HB.out.2 _ _ _ _ _ _ _ _ _ _ _) Try.underlying42 rfl (by kernel_rfl)) rfl ⟨some a, HO.out, rfl, Below.set11 HB.out.1 (by omega) _ _ _ _ _ _ _ _ _ _ _⟩
end Go.Proofs.Ytbhijjegkpjkcaa
end
section
namespace Go.Proofs.Ytbhijjegkpjkcaa
open Go.RowKit

theorem getAsk_some {a : AskP} (hw : a.Wf) (ho : a.Ok) (w : World) : Calls Try.prog 12 #[.string (str a.enc)] w fun e w' => e = .returned (.tuple #[askV a, .bool true]) ∧ Below w.heap.size w w' := by
  refine (getAsk_c a.enc w).mono ?_
  rintro e w' ⟨o, h, he, hb⟩
  have : o = some a := h.one (o' := some a) ⟨hw, ho, rfl⟩
  subst this
  exact ⟨he, hb⟩
def askNo : Value := .tuple #[.agg #[.int .u64 0, .string ⟨#[]⟩, .int .u64 0, .int .u64 0, .int .u64 0, .int .u64 0, .int .i64 0], .bool false]
theorem getAsk_none {s : List UInt8} (hn : ∀ a : AskP, a.Wf → a.Ok → a.enc ≠ s) (w : World) : Calls Try.prog 12 #[.string (str s)] w fun e w' => e = .returned (.tuple #[.agg #[.int .u64 0, .string ⟨#[]⟩, .int .u64 0, .int .u64 0, .int .u64 0, .int .u64 0, .int .i64 0], .bool false]) ∧ Below w.heap.size w w' := by
  refine (getAsk_c s w).mono ?_
  rintro e w' ⟨o, h, he, hb⟩
  have : o = none := h.one (o' := none) hn
  subst this
  exact ⟨he, hb⟩
theorem getReply_some {kind : Int} {a : ReplyP} (hw : a.Wf) (ho : a.Ok kind) (w : World) : Calls Try.prog 17 #[.int .i64 kind, .string (str (a.enc kind))] w fun e w' => e = .returned (.tuple #[replyV a, .bool true]) ∧ Below w.heap.size w w' := by
  refine (getReply_c kind (a.enc kind) w).mono ?_
  rintro e w' ⟨o, h, he, hb⟩
  have : o = some a := h.one (o' := some a) ⟨hw, ho, rfl⟩
  subst this
  exact ⟨he, hb⟩
theorem getReply_none {kind : Int} {s : List UInt8} (hn : ∀ a : ReplyP, a.Wf → a.Ok kind → a.enc kind ≠ s) (w : World) : Calls Try.prog 17 #[.int .i64 kind, .string (str s)] w fun e w' => e = .returned (.tuple #[.agg #[.int .u64 0, .int .u64 0, .int .u64 0, .int .u64 0, .int .u64 0, .int .u64 0, .string ⟨#[]⟩, .int .u64 0, .int .u64 0, .int .u64 0, .int .u64 0], .bool false]) ∧ Below w.heap.size w w' := by
  refine (getReply_c kind s w).mono ?_
  rintro e w' ⟨o, h, he, hb⟩
  have : o = none := h.one (o' := none) hn
  subst this
  exact ⟨he, hb⟩
theorem putAsk_ok {a : AskP} (hw : a.Wf) (ho : a.Ok) (w : World) : Calls Try.prog 9 #[askV a] w fun e w' => e = .returned (.tuple #[.string (str a.enc), .bool true]) ∧ Below w.heap.size w w' := by
  have h := putAsk_c hw w
  rwa [putAskV_ok ho] at h
theorem putReply_ok {kind : Int} {r : ReplyP} (hw : r.Wf) (ho : r.Ok kind) (w : World) : Calls Try.prog 14 #[.int .i64 kind, replyV r] w fun e w' => e = .returned (.tuple #[.string (str (r.enc kind)), .bool true]) ∧ Below w.heap.size w w' := by
  have h := putReply_c kind hw w
  rwa [putReplyV_ok ho] at h
theorem putReply_no {kind : Int} {r : ReplyP} (hw : r.Wf) (ho : ¬ r.Ok kind) (w : World) : Calls Try.prog 14 #[.int .i64 kind, replyV r] w fun e w' => e = .returned (.tuple #[.string ⟨#[]⟩, .bool false]) ∧ Below w.heap.size w w' := by
  have h := putReply_c kind hw w
  rwa [putReplyV_no ho] at h
theorem eq_ask (a : AskP) (w : World) : (binOp .eql 26 (askV a) (askV a)).run Try.prog w = .ok (.bool true) w := by
  have u3 := Try.underlying22
  have a3' := Try.isAgg22
  have z3 := Try.sizeOf22
  have u4 := Try.underlying3
  have a4' := Try.isAgg3
  have z4 := Try.sizeOf3
  have u9 := Try.underlying9
  have a9 := Try.isAgg9
  have z9 := Try.sizeOf9
  have uW := Try.underlying24
  have aW := Try.isAgg24
  have zW := Try.sizeOf24
  have hS : Try.prog.underlying 26 = some (.struct (Try.prog.fieldsOf 26)) := by kernel_rfl
  have hp : Try.prog.stoodInHeld 26 = false := by kernel_rfl
  have hSW : Try.prog.underlying 24 = some (.struct (Try.prog.fieldsOf 24)) := by kernel_rfl
  have hpW : Try.prog.stoodInHeld 24 = false := by kernel_rfl
  unfold askV
  rw [run_eql_struct, show (10000 : Nat) = 9999 + 1 from rfl, run_equalIn_agg w 9999 26 _ _ hS hp]
  simp only [Program.fieldsOf, Try.underlying26]
  go_simp
theorem eq_reply (r : ReplyP) (w : World) : (binOp .eql 42 (replyV r) (replyV r)).run Try.prog w = .ok (.bool true) w := by
  have u3 := Try.underlying22
  have a3' := Try.isAgg22
  have z3 := Try.sizeOf22
  have u9 := Try.underlying9
  have a9 := Try.isAgg9
  have z9 := Try.sizeOf9
  have uW := Try.underlying24
  have aW := Try.isAgg24
  have zW := Try.sizeOf24
  have uA := Try.underlying40
  have aA := Try.isAgg40
  have zA := Try.sizeOf40
  have hS : Try.prog.underlying 42 = some (.struct (Try.prog.fieldsOf 42)) := by kernel_rfl
  have hp : Try.prog.stoodInHeld 42 = false := by kernel_rfl
  have hSA : Try.prog.underlying 40 = some (.struct (Try.prog.fieldsOf 40)) := by kernel_rfl
  have hpA : Try.prog.stoodInHeld 40 = false := by kernel_rfl
  have hSW : Try.prog.underlying 24 = some (.struct (Try.prog.fieldsOf 24)) := by kernel_rfl
  have hpW : Try.prog.stoodInHeld 24 = false := by kernel_rfl
  unfold replyV
  rw [run_eql_struct, show (10000 : Nat) = 9999 + 1 from rfl, run_equalIn_agg w 9999 42 _ _ hS hp]
  simp only [Program.fieldsOf, Try.underlying42]
  go_simp
/-- An ask's box, a reply's box, as a call goes on. -/
def Box (b : Nat) (cs : Array Value) (t : TypeId) (V : World) : Prop := V.heap[b]? = some (.cells cs t (0, 0))
theorem Box.call {b : Nat} {cs : Array Value} {t : TypeId} {V V' : World} (h : Box b cs t V) (hb : Below V.heap.size V V') : Box b cs t V' := (hb.block _ (lt_of h)).trans h
theorem Below.set7 {B b : Nat} {a w : World} (h : Below B a w) (hb : B ≤ b) (u0 u1 u2 u3 u4 u5 u6 : Value) : Below B a (((((((w.setCell ⟨b, 0, none⟩ u0).setCell ⟨b, 1, none⟩ u1).setCell ⟨b, 2, none⟩ u2).setCell ⟨b, 3, none⟩ u3).setCell ⟨b, 4, none⟩ u4).setCell ⟨b, 5, none⟩ u5).setCell ⟨b, 6, none⟩ u6) :=
  (((((((h.setCell (p := ⟨b, 0, none⟩) hb u0).setCell (p := ⟨b, 1, none⟩) hb u1).setCell (p := ⟨b, 2, none⟩) hb u2).setCell (p := ⟨b, 3, none⟩) hb u3).setCell (p := ⟨b, 4, none⟩) hb u4).setCell (p := ⟨b, 5, none⟩) hb u5).setCell (p := ⟨b, 6, none⟩) hb u6)
def exA : AskP := ⟨5, List.replicate 20 97, 0, 1⟩
def exR : ReplyP := ⟨5, 7, 0, [], 0⟩
theorem exA_ok : exA.Wf ∧ exA.Ok := ⟨⟨by decide, by decide, by decide, by decide⟩, by decide⟩
theorem exR_ok : exR.Wf ∧ exR.Ok 1 := ⟨⟨by decide, by decide, by decide, by decide⟩, by decide⟩
theorem enc_nil (a : AskP) : a.enc ≠ [] := fun h => by
  have := congrArg List.length h
  unfold AskP.enc AskP.it It.enc hd at this
  simp only [List.length_append, List.length_nil] at this
  split at this <;> simp at this
theorem exA_v : askV exA = .agg #[.int .u64 5, .string ⟨#[97, 97, 97, 97, 97, 97, 97, 97, 97, 97, 97, 97, 97, 97, 97, 97, 97, 97, 97, 97]⟩, .int .u64 0, .int .u64 0, .int .u64 0, .int .u64 0, .int .i64 1] := by kernel_rfl
theorem exR_v : replyV exR = .agg #[.int .u64 5, .int .u64 7, .int .u64 0, .int .u64 0, .int .u64 0, .int .u64 0, .string ⟨#[]⟩, .int .u64 0, .int .u64 0, .int .u64 0, .int .u64 0] := by kernel_rfl
end Go.Proofs.Ytbhijjegkpjkcaa
end
section
namespace Go.Proofs.Ytbhijjegkpjkcaa
open Go.RowKit

theorem alloc1 (w : World) (cs : Array Value) (t : TypeId) : Below w.heap.size w (w.alloc (.cells cs t)) ∧ Box w.heap.size cs t (w.alloc (.cells cs t)) := ⟨(Below.refl _ _).alloc (Nat.le_refl _) _, heap_alloc_new _ _⟩
set_option maxRecDepth 100000 in
set_option maxHeartbeats 4000000 in
theorem examples_c (w : World) : Calls Try.prog 8 #[] w fun e w' => e = .returned (.bool true) ∧ Below w.heap.size w w' := by
  have C1 := Lib.hid (fun W => putAsk_ok exA_ok.1 exA_ok.2 W)
  have C2 := Lib.hid (fun W => getAsk_some exA_ok.1 exA_ok.2 W)
  have C3 := Lib.hid (fun W => putReply_ok exR_ok.1 exR_ok.2 W)
  have C4 := Lib.hid (fun W => getReply_some exR_ok.1 exR_ok.2 W)
  have C5 := Lib.hid (fun W => getAsk_none (s := []) (fun a _ _ => enc_nil a) W)
  have E1 := eq_ask exA
  have E2 := eq_reply exR
  rw [exA_v] at C1 C2 E1
  rw [exR_v] at C3 C4 E2
  generalize str exA.enc = s1 at *
  generalize str (exR.enc 1) = s2 at *
  go_enter Try.func8, Try.ntmps8
  go_wp2_with fail
  refine (C1.out _).mono ?_
  rintro e w1 ⟨rfl, hb⟩
  have k0 := alloc1 w #[.int .u64 5, .string ⟨#[97, 97, 97, 97, 97, 97, 97, 97, 97, 97, 97, 97, 97, 97, 97, 97, 97, 97, 97, 97]⟩, .int .u64 0, .int .u64 0, .int .u64 0, .int .u64 0, .int .i64 1] 26
  have K1 := Lib.hid (And.intro (k0.2.call hb) (k0.1.trans (hb.mono k0.1.size)))
  clear hb k0
  go_wp2_with fail
  refine (C2.out _).mono ?_
  rintro e w2 ⟨rfl, hb⟩
  have K2 := Lib.hid (And.intro (K1.out.1.call hb) (K1.out.2.trans (hb.mono K1.out.2.size)))
  clear hb K1
  go_wp2_with fail
  refine (C3.out _).mono ?_
  rintro e w3 ⟨rfl, hb⟩
  have k0 := alloc1 w2 #[.int .u64 5, .string ⟨#[97, 97, 97, 97, 97, 97, 97, 97, 97, 97, 97, 97, 97, 97, 97, 97, 97, 97, 97, 97]⟩, .int .u64 0, .int .u64 0, .int .u64 0, .int .u64 0, .int .i64 1] 26
  have k1 := alloc1 (w2.alloc (.cells #[.int .u64 5, .string ⟨#[97, 97, 97, 97, 97, 97, 97, 97, 97, 97, 97, 97, 97, 97, 97, 97, 97, 97, 97, 97]⟩, .int .u64 0, .int .u64 0, .int .u64 0, .int .u64 0, .int .i64 1] 26)) #[.int .u64 5, .int .u64 7, .int .u64 0, .int .u64 0, .int .u64 0, .int .u64 0, .string ⟨#[]⟩, .int .u64 0, .int .u64 0, .int .u64 0, .int .u64 0] 42
  have k2 := k0.2.call k1.1
  have k3 := k0.1.trans (k1.1.mono k0.1.size)
  have k4 := k3.trans (hb.mono k3.size)
  have kz : (w2.alloc (.cells #[.int .u64 5, .string ⟨#[97, 97, 97, 97, 97, 97, 97, 97, 97, 97, 97, 97, 97, 97, 97, 97, 97, 97, 97, 97]⟩, .int .u64 0, .int .u64 0, .int .u64 0, .int .u64 0, .int .i64 1] 26)).heap.size = w2.heap.size + 1 := by simp
  rw [kz] at k1
  have K4 := Lib.hid (And.intro (K2.out.1.call k4) (And.intro (K2.out.2.trans (k4.mono K2.out.2.size)) (And.intro (k1.2.call hb) (k2.call hb))))
  clear hb k0 k1 k2 k3 k4 kz K2
  generalize w2.heap.size = g2 at *
  generalize g2 + 1 = g3 at *
  go_wp2_with fail
  refine (C4.out _).mono ?_
  rintro e w4 ⟨rfl, hb⟩
  have K5 := Lib.hid (And.intro (K4.out.1.call hb) (And.intro (K4.out.2.1.trans (hb.mono K4.out.2.1.size)) (And.intro (K4.out.2.2.1.call hb) (K4.out.2.2.2.call hb))))
  clear hb K4
  go_wp2_with fail
  refine (C5.out _).mono ?_
  rintro e w5 ⟨rfl, hb⟩
  have k0 := alloc1 w4 #[.int .u64 5, .int .u64 7, .int .u64 0, .int .u64 0, .int .u64 0, .int .u64 0, .string ⟨#[]⟩, .int .u64 0, .int .u64 0, .int .u64 0, .int .u64 0] 42
  have hb' := k0.1.trans (hb.mono k0.1.size)
  obtain ⟨q0, q1, q2, q3⟩ := K5.out
  have p0 := q0.call hb'
  have p1 := q1.trans (hb'.mono q1.size)
  have p2 := q2.call hb'
  have p3 := q3.call hb'
  have p4 := k0.2.call hb
  generalize w4.heap.size = g4 at *
  have b5 := (alloc1 w5 #[.int .u64 0, .string ⟨#[]⟩, .int .u64 0, .int .u64 0, .int .u64 0, .int .u64 0, .int .i64 0] 26).1
  have r0 := p0.call b5
  have r2 := p2.call b5
  have r3 := p3.call b5
  have r4 := p4.call b5
  have KE := Lib.hid (p1.trans (b5.mono p1.size))
  obtain ⟨⟨aa0, aa1, aa2, aa3, aa4, aa5, aa6⟩, ii0, ii1, ii2, ii3, ii4, ii5, ii6⟩ := cells7 r0
  obtain ⟨⟨bb0, bb1, bb2, bb3, bb4, bb5, bb6⟩, jj0, jj1, jj2, jj3, jj4, jj5, jj6⟩ := cells7 r3
  obtain ⟨⟨ee0, ee1, ee2, ee3, ee4, ee5, ee6, ee7, ee8, ee9, ee10⟩, ll0, ll1, ll2, ll3, ll4, ll5, ll6, ll7, ll8, ll9, ll10⟩ := cells11 r2
  obtain ⟨⟨ff0, ff1, ff2, ff3, ff4, ff5, ff6, ff7, ff8, ff9, ff10⟩, oo0, oo1, oo2, oo3, oo4, oo5, oo6, oo7, oo8, oo9, oo10⟩ := cells11 r4
  clear hb hb' k0 q0 q1 q2 q3 p0 p1 p2 p3 p4 K5 b5 r0 r2 r3 r4
  go_wp2_with fail
  go_ret
  exact ⟨rfl, KE.out⟩
end Go.Proofs.Ytbhijjegkpjkcaa
end
section
namespace Go.Proofs.Ytbhijjegkpjkcaa
open Go.RowKit

theorem str_of' (s : ByteArray) : str s.data.toList = s := by cases s; simp [str]
theorem wzeros_of (N : Nat) (W : World) : (convert 33 9 (.slice (some ⟨W.heap.size, 0, none⟩) N N)).run Try.prog (W.alloc (.cells (madeCells #[.int .u8 0] N) 5)) = .ok (.string (str (List.replicate N 0))) (W.alloc (.cells (madeCells #[.int .u8 0] N) 5)) := by
  have h := run_convert_bytes_back (P := Try.prog) (W.alloc (.cells (madeCells #[.int .u8 0] N) 5)) 33 9 5 ⟨W.heap.size, 0, none⟩ N (List.replicate N 0) Try.underlying33 Try.underlying5 Try.underlying9 (fun j hj => by
    rw [List.length_replicate] at hj
    have e : (⟨W.heap.size, 0, none⟩ : Addr).add j = ⟨W.heap.size, j, none⟩ := by unfold Addr.add; split <;> simp_all
    rw [e, cell_of (heap_alloc_new W _) j, ← Array.getElem?_toList, toList_madeCells_one, List.getElem?_replicate, if_pos hj, List.getElem_replicate]
    rfl)
  rw [List.length_replicate] at h
  exact h
theorem wmake_zeros (W : World) : (Instr.makeSlice 33 (.int .i64 24577) (.int .i64 24577)).run Try.prog W = .ok (.slice (some ⟨W.heap.size, 0, none⟩) 24577 24577) (W.alloc (.cells (madeCells #[.int .u8 0] 24577) 5)) := by
  obtain ⟨i0, hi, hz0, hz1, hz2⟩ := info_parts infoByte
  have h := run_makeSlice (P := Try.prog) W 33 5 i0 _ Try.underlying33 hi hz0 .i64 .i64 24577 24577 (by omega) (by omega) (by rw [hz1]; decide) (by rw [hz2]; decide) (by decide)
  rw [hz1] at h
  exact h
def bothR : ReplyP := ⟨0, 1, 0, [], 1⟩
def longR (l : List UInt8) : ReplyP := ⟨0, 0, 0, l, 0⟩
theorem bothR_no : bothR.Wf ∧ ¬ bothR.Ok 1 := ⟨⟨by decide, by decide, by decide, by decide⟩, by decide⟩
theorem zeroR_no : ReplyP.zero.Wf ∧ ¬ ReplyP.zero.Ok 3 := ⟨⟨by decide, by decide, by decide, by decide⟩, by decide⟩
theorem longR_no {l : List UInt8} (h : 24576 < l.length) : (longR l).Wf ∧ ¬ (longR l).Ok 1 := ⟨⟨by show 0 < M64; decide, by show 0 < M64; decide, by show 0 < W256; decide, by show 0 < W256; decide⟩, fun k => by have : l.length ≤ 24576 := k.1; omega⟩
theorem bothR_v : replyV bothR = .agg #[.int .u64 0, .int .u64 1, .int .u64 0, .int .u64 0, .int .u64 0, .int .u64 0, .string ⟨#[]⟩, .int .u64 0, .int .u64 0, .int .u64 0, .int .u64 1] := by kernel_rfl
theorem zeroR_v : replyV ReplyP.zero = .agg #[.int .u64 0, .int .u64 0, .int .u64 0, .int .u64 0, .int .u64 0, .int .u64 0, .string ⟨#[]⟩, .int .u64 0, .int .u64 0, .int .u64 0, .int .u64 0] := by kernel_rfl
theorem longR_v (l : List UInt8) : replyV (longR l) = .agg #[.int .u64 0, .int .u64 0, .int .u64 0, .int .u64 0, .int .u64 0, .int .u64 0, .string (str l), .int .u64 0, .int .u64 0, .int .u64 0, .int .u64 0] := by
  unfold replyV longR
  simp [lim_zero]
theorem putAskV_is (a : AskP) : ∃ s, putAskV a = .tuple #[.string s, .bool (decide a.Ok)] := ⟨_, rfl⟩
set_option maxRecDepth 100000 in
set_option maxHeartbeats 4000000 in
theorem refuses_c (s : List UInt8) (kind : Int) (hk : -9223372036854775808 ≤ kind ∧ kind ≤ 9223372036854775807) (n : Nat) (hn : n < W256) (w : World) : Calls Try.prog 6 #[.string (str s), .int .i64 kind, wordV n] w fun e w' => e = .returned (.bool true) ∧ Below w.heap.size w w' := by
  have hC1 := fun W => putAsk_c (a := ⟨0, s, n, kind⟩) ⟨by show 0 < M64; decide, hn, hk⟩ W
  obtain ⟨ps, hps⟩ := putAskV_is ⟨0, s, n, kind⟩
  rw [hps] at hC1
  have hOk : AskP.Ok ⟨0, s, n, kind⟩ ↔ s.length = 20 ∧ (kind = 2 ∨ kind = 1 ∧ n = 0) := Iff.rfl
  have heq := fun W => eq_zero hn W
  have hsz : (str s).size = s.length := str_size s
  obtain ⟨Zc, hZc⟩ : ∃ Zc : Array Value, Zc = madeCells #[.int .u8 0] 24577 := ⟨_, rfl⟩
  obtain ⟨Zs, hZs⟩ : ∃ Zs : List UInt8, Zs = List.replicate 24577 0 := ⟨_, rfl⟩
  have hcv : ∀ W : World, (convert 33 9 (.slice (some ⟨W.heap.size, 0, none⟩) 24577 24577)).run Try.prog (W.alloc (.cells Zc 5)) = .ok (.string (str Zs)) (W.alloc (.cells Zc 5)) := by rw [hZc, hZs]; exact wzeros_of 24577
  have hmk : ∀ W : World, (Instr.makeSlice 33 (.int .i64 24577) (.int .i64 24577)).run Try.prog W = .ok (.slice (some ⟨W.heap.size, 0, none⟩) 24577 24577) (W.alloc (.cells Zc 5)) := by rw [hZc]; exact wmake_zeros
  have hl : 24576 < Zs.length := by rw [hZs, List.length_replicate]; omega
  have C2 := Lib.hid (fun W => putReply_no bothR_no.1 bothR_no.2 W)
  have C3 := Lib.hid (fun W => putReply_no zeroR_no.1 zeroR_no.2 W)
  have C4 := Lib.hid (fun W => putReply_no (longR_no hl).1 (longR_no hl).2 W)
  rw [bothR_v] at C2
  rw [zeroR_v] at C3
  rw [longR_v] at C4
  clear hZc hZs hl hps
  generalize str Zs = ys at *
  generalize hok : decide (AskP.Ok ⟨0, s, n, kind⟩) = ok at hC1
  have hok' : ok = decide (s.length = 20 ∧ (kind = 2 ∨ kind = 1 ∧ n = 0)) := by rw [← hok]; exact decide_eq_decide.2 hOk
  clear hok hOk
  have hal := alloc1 w #[.int .u64 (l3 n : Nat), .int .u64 (l2 n : Nat), .int .u64 (l1 n : Nat), .int .u64 (l0 n : Nat)] 24
  have HA := Lib.hid (And.intro hal.2 hal.1)
  unfold askV at hC1
  unfold wordV at heq ⊢
  simp only at hC1
  have C1 := Lib.hid hC1
  clear hal hC1
  generalize str s = y at *
  by_cases hl : s.length = 20
  · have hy : y.size = 20 := by rw [hsz, hl]
    by_cases h2 : kind = 2
    · have hv : ok = true := by rw [hok']; simp [hl, h2]
      clear hok' hsz hl
      subst hv h2
      go_enter Try.func6, Try.ntmps6
      go_wp2_with fail
      refine (examples_c _).mono ?_
      rintro e w1 ⟨rfl, hb⟩
      have k1 := HA.out.1.call hb
      have b1 := HA.out.2.trans (hb.mono HA.out.2.size)
      obtain ⟨⟨c0, c1, c2, c3⟩, z0, z1, z2, z3⟩ := cells4 k1
      have H1 := Lib.hid (And.intro k1 b1)
      clear k1 b1 hb HA
      go_wp2_with fail
      refine (C1.out _).mono ?_
      rintro e w2 ⟨rfl, hb⟩
      have k1 := H1.out.1.call hb
      have b1 := H1.out.2.trans (hb.mono H1.out.2.size)
      clear c0 c1 c2 c3 z0 z1 z2 z3
      obtain ⟨⟨c0, c1, c2, c3⟩, z0, z1, z2, z3⟩ := cells4 k1
      have H2 := Lib.hid b1
      clear k1 b1 hb H1
      go_wp2_with fail
      refine (C2.out _).mono ?_
      rintro e w3 ⟨rfl, hb⟩
      have H3 := Lib.hid (H2.out.trans (hb.mono H2.out.size))
      clear c0 c1 c2 c3 z0 z1 z2 z3 hb H2
      go_wp2_with fail
      refine (C3.out _).mono ?_
      rintro e w4 ⟨rfl, hb⟩
      have H4 := Lib.hid (H3.out.trans (hb.mono H3.out.size))
      clear hb H3
      go_wp2_with fail
      refine (C4.out _).mono ?_
      rintro e w5 ⟨rfl, hb⟩
      have H5 := Lib.hid ((H4.out.trans ((alloc1 w4 Zc 5).1.mono H4.out.size)).trans (hb.mono (H4.out.trans ((alloc1 w4 Zc 5).1.mono H4.out.size)).size))
      clear hb H4
      go_wp2_with fail
      go_ret
      exact ⟨by first | rfl | simp [h2] | simp [hy'], H5.out⟩
    · by_cases h1 : kind = 1
      · by_cases h0 : n = 0
        · have hv : ok = true := by rw [hok']; simp [hl, h1, h0]
          have hz : decide (n = 0) = true := by simp [h0]
          rw [hz] at heq
          clear hok' hsz hl h0 hz h2
          subst hv h1
          go_enter Try.func6, Try.ntmps6
          go_wp2_with fail
          refine (examples_c _).mono ?_
          rintro e w1 ⟨rfl, hb⟩
          have k1 := HA.out.1.call hb
          have b1 := HA.out.2.trans (hb.mono HA.out.2.size)
          obtain ⟨⟨c0, c1, c2, c3⟩, z0, z1, z2, z3⟩ := cells4 k1
          have H1 := Lib.hid (And.intro k1 b1)
          clear k1 b1 hb HA
          go_wp2_with fail
          refine (C1.out _).mono ?_
          rintro e w2 ⟨rfl, hb⟩
          have k1 := H1.out.1.call hb
          have b1 := H1.out.2.trans (hb.mono H1.out.2.size)
          clear c0 c1 c2 c3 z0 z1 z2 z3
          obtain ⟨⟨c0, c1, c2, c3⟩, z0, z1, z2, z3⟩ := cells4 k1
          have H2 := Lib.hid b1
          clear k1 b1 hb H1
          go_wp2_with fail
          refine (C2.out _).mono ?_
          rintro e w3 ⟨rfl, hb⟩
          have H3 := Lib.hid (H2.out.trans (hb.mono H2.out.size))
          clear c0 c1 c2 c3 z0 z1 z2 z3 hb H2
          go_wp2_with fail
          refine (C3.out _).mono ?_
          rintro e w4 ⟨rfl, hb⟩
          have H4 := Lib.hid (H3.out.trans (hb.mono H3.out.size))
          clear hb H3
          go_wp2_with fail
          refine (C4.out _).mono ?_
          rintro e w5 ⟨rfl, hb⟩
          have H5 := Lib.hid ((H4.out.trans ((alloc1 w4 Zc 5).1.mono H4.out.size)).trans (hb.mono (H4.out.trans ((alloc1 w4 Zc 5).1.mono H4.out.size)).size))
          clear hb H4
          go_wp2_with fail
          go_ret
          exact ⟨by first | rfl | simp [h2] | simp [hy'], H5.out⟩
        · have hv : ok = false := by rw [hok']; simp [hl, h1, h0]
          have hz : decide (n = 0) = false := by simp [h0]
          rw [hz] at heq
          clear hok' hsz hl h0 hz h2
          subst hv h1
          go_enter Try.func6, Try.ntmps6
          go_wp2_with fail
          refine (examples_c _).mono ?_
          rintro e w1 ⟨rfl, hb⟩
          have k1 := HA.out.1.call hb
          have b1 := HA.out.2.trans (hb.mono HA.out.2.size)
          obtain ⟨⟨c0, c1, c2, c3⟩, z0, z1, z2, z3⟩ := cells4 k1
          have H1 := Lib.hid (And.intro k1 b1)
          clear k1 b1 hb HA
          go_wp2_with fail
          refine (C1.out _).mono ?_
          rintro e w2 ⟨rfl, hb⟩
          have k1 := H1.out.1.call hb
          have b1 := H1.out.2.trans (hb.mono H1.out.2.size)
          clear c0 c1 c2 c3 z0 z1 z2 z3
          obtain ⟨⟨c0, c1, c2, c3⟩, z0, z1, z2, z3⟩ := cells4 k1
          have H2 := Lib.hid b1
          clear k1 b1 hb H1
          go_wp2_with fail
          refine (C2.out _).mono ?_
          rintro e w3 ⟨rfl, hb⟩
          have H3 := Lib.hid (H2.out.trans (hb.mono H2.out.size))
          clear c0 c1 c2 c3 z0 z1 z2 z3 hb H2
          go_wp2_with fail
          refine (C3.out _).mono ?_
          rintro e w4 ⟨rfl, hb⟩
          have H4 := Lib.hid (H3.out.trans (hb.mono H3.out.size))
          clear hb H3
          go_wp2_with fail
          refine (C4.out _).mono ?_
          rintro e w5 ⟨rfl, hb⟩
          have H5 := Lib.hid ((H4.out.trans ((alloc1 w4 Zc 5).1.mono H4.out.size)).trans (hb.mono (H4.out.trans ((alloc1 w4 Zc 5).1.mono H4.out.size)).size))
          clear hb H4
          go_wp2_with fail
          go_ret
          exact ⟨by first | rfl | simp [h2] | simp [hy'], H5.out⟩
      · have hv : ok = false := by rw [hok']; simp [h1, h2]
        clear hok' hsz hl
        subst hv
        go_enter Try.func6, Try.ntmps6
        go_wp2_with fail
        refine (examples_c _).mono ?_
        rintro e w1 ⟨rfl, hb⟩
        have k1 := HA.out.1.call hb
        have b1 := HA.out.2.trans (hb.mono HA.out.2.size)
        obtain ⟨⟨c0, c1, c2, c3⟩, z0, z1, z2, z3⟩ := cells4 k1
        have H1 := Lib.hid (And.intro k1 b1)
        clear k1 b1 hb HA
        go_wp2_with fail
        refine (C1.out _).mono ?_
        rintro e w2 ⟨rfl, hb⟩
        have k1 := H1.out.1.call hb
        have b1 := H1.out.2.trans (hb.mono H1.out.2.size)
        clear c0 c1 c2 c3 z0 z1 z2 z3
        obtain ⟨⟨c0, c1, c2, c3⟩, z0, z1, z2, z3⟩ := cells4 k1
        have H2 := Lib.hid b1
        clear k1 b1 hb H1
        go_wp2_with fail
        refine (C2.out _).mono ?_
        rintro e w3 ⟨rfl, hb⟩
        have H3 := Lib.hid (H2.out.trans (hb.mono H2.out.size))
        clear c0 c1 c2 c3 z0 z1 z2 z3 hb H2
        go_wp2_with fail
        refine (C3.out _).mono ?_
        rintro e w4 ⟨rfl, hb⟩
        have H4 := Lib.hid (H3.out.trans (hb.mono H3.out.size))
        clear hb H3
        go_wp2_with fail
        refine (C4.out _).mono ?_
        rintro e w5 ⟨rfl, hb⟩
        have H5 := Lib.hid ((H4.out.trans ((alloc1 w4 Zc 5).1.mono H4.out.size)).trans (hb.mono (H4.out.trans ((alloc1 w4 Zc 5).1.mono H4.out.size)).size))
        clear hb H4
        go_wp2_with fail
        go_ret
        exact ⟨by first | rfl | simp [h2] | simp [hy'], H5.out⟩
  · have hy : ¬ y.size = 20 := by rw [hsz]; exact hl
    have hy' : ¬ (y.size : Int) = 20 := by omega
    have hv : ok = false := by rw [hok']; simp [hl]
    clear hok' hsz hl
    subst hv
    go_enter Try.func6, Try.ntmps6
    go_wp2_with fail
    refine (examples_c _).mono ?_
    rintro e w1 ⟨rfl, hb⟩
    have k1 := HA.out.1.call hb
    have b1 := HA.out.2.trans (hb.mono HA.out.2.size)
    obtain ⟨⟨c0, c1, c2, c3⟩, z0, z1, z2, z3⟩ := cells4 k1
    have H1 := Lib.hid (And.intro k1 b1)
    clear k1 b1 hb HA
    go_wp2_with fail
    refine (C1.out _).mono ?_
    rintro e w2 ⟨rfl, hb⟩
    have k1 := H1.out.1.call hb
    have b1 := H1.out.2.trans (hb.mono H1.out.2.size)
    clear c0 c1 c2 c3 z0 z1 z2 z3
    obtain ⟨⟨c0, c1, c2, c3⟩, z0, z1, z2, z3⟩ := cells4 k1
    have H2 := Lib.hid b1
    clear k1 b1 hb H1
    go_wp2_with fail
    refine (C2.out _).mono ?_
    rintro e w3 ⟨rfl, hb⟩
    have H3 := Lib.hid (H2.out.trans (hb.mono H2.out.size))
    clear c0 c1 c2 c3 z0 z1 z2 z3 hb H2
    go_wp2_with fail
    refine (C3.out _).mono ?_
    rintro e w4 ⟨rfl, hb⟩
    have H4 := Lib.hid (H3.out.trans (hb.mono H3.out.size))
    clear hb H3
    go_wp2_with fail
    refine (C4.out _).mono ?_
    rintro e w5 ⟨rfl, hb⟩
    have H5 := Lib.hid ((H4.out.trans ((alloc1 w4 Zc 5).1.mono H4.out.size)).trans (hb.mono (H4.out.trans ((alloc1 w4 Zc 5).1.mono H4.out.size)).size))
    clear hb H4
    go_wp2_with fail
    go_ret
    exact ⟨by first | rfl | simp [h2] | simp [hy'], H5.out⟩
theorem refusesA_c (s : ByteArray) (kind : Int) (hk : -9223372036854775808 ≤ kind ∧ kind ≤ 9223372036854775807) (n : Nat) (hn : n < W256) (w : World) : Calls Try.prog 6 #[.string s, .int .i64 kind, .agg #[.int .u64 (l3 n : Nat), .int .u64 (l2 n : Nat), .int .u64 (l1 n : Nat), .int .u64 (l0 n : Nat)]] w fun e w' => e = .returned (.bool true) ∧ Below w.heap.size w w' := by
  have h := refuses_c s.data.toList kind hk n hn w
  rwa [str_of'] at h
end Go.Proofs.Ytbhijjegkpjkcaa
end
section
namespace Go.Proofs.Ytbhijjegkpjkcaa
open Go.RowKit

theorem dec_ask {b : AskP} (hw : b.Wf) (ho : b.Ok) : decP b.enc = some (b.it.fo .nil) := dec_it b.it (by have := AskP.enc_len hw ho; unfold AskP.enc at this; omega) b.dep
theorem dec_reply {kind : Int} {b : ReplyP} (hw : b.Wf) (ho : b.Ok kind) : decP (b.body kind) = some ((b.it kind).fo .nil) := dec_it (b.it kind) (by have := ReplyP.body_len hw ho; unfold ReplyP.body at this; omega) (b.dep kind)
theorem ask_small {a : AskP} (hw : a.Wf) (ho : a.Ok) : a.it.enc.length < M64 := by have := AskP.enc_len hw ho; unfold AskP.enc at this; unfold M64; omega
theorem reply_small {kind : Int} {a : ReplyP} (hw : a.Wf) (ho : a.Ok kind) : (a.it kind).enc.length < M64 := by have := ReplyP.body_len hw ho; unfold ReplyP.body at this; unfold M64; omega
theorem ask_cut {a : AskP} (hw : a.Wf) (ho : a.Ok) {n : Nat} (hn : n < a.enc.length) : ∀ b : AskP, b.Wf → b.Ok → b.enc ≠ a.enc.take n := by
  intro b hb ob h
  have h1 := dec_ask hb ob
  rw [h] at h1
  have h2 := decP_cut a.it (ask_small hw ho) n hn
  exact absurd (h1.symm.trans h2) (by simp)
theorem ask_more {a : AskP} (hw : a.Wf) (ho : a.Ok) (m : UInt8) : ∀ b : AskP, b.Wf → b.Ok → b.enc ≠ a.enc ++ [m] := by
  intro b hb ob h
  have h1 := dec_ask hb ob
  rw [h] at h1
  have h2 := decP_more a.it (ask_small hw ho) m []
  exact absurd (h1.symm.trans h2) (by simp)
theorem reply_len {kind : Int} {a : ReplyP} : (a.enc kind).length = 4 + (a.body kind).length := by unfold ReplyP.enc; rw [List.length_append, sum4_len]
theorem reply_cut {kind : Int} {a : ReplyP} (hw : a.Wf) (ho : a.Ok kind) {n : Nat} (hn : n < (a.enc kind).length) : ∀ b : ReplyP, b.Wf → b.Ok kind → b.enc kind ≠ (a.enc kind).take n := by
  intro b hb ob h
  have hl := congrArg List.length h
  rw [reply_len, List.length_take] at hl
  rw [reply_len] at hn
  have hd := congrArg (List.drop 4) h
  rw [ReplyP.body_of, List.drop_take, ReplyP.body_of] at hd
  have h1 := dec_reply hb ob
  rw [hd] at h1
  have h2 := decP_cut (a.it kind) (reply_small hw ho) (n - 4) (by show n - 4 < (a.body kind).length; omega)
  exact absurd (h1.symm.trans h2) (by simp)
theorem reply_more {kind : Int} {a : ReplyP} (hw : a.Wf) (ho : a.Ok kind) (m : UInt8) : ∀ b : ReplyP, b.Wf → b.Ok kind → b.enc kind ≠ a.enc kind ++ [m] := by
  intro b hb ob h
  have hd := congrArg (List.drop 4) h
  rw [ReplyP.body_of, List.drop_append_of_le_length (by rw [reply_len]; omega), ReplyP.body_of] at hd
  have h1 := dec_reply hb ob
  rw [hd] at h1
  have h2 := decP_more (a.it kind) (reply_small hw ho) m []
  exact absurd (h1.symm.trans h2) (by simp)
end Go.Proofs.Ytbhijjegkpjkcaa
end
section
namespace Go.Proofs.Ytbhijjegkpjkcaa
open Go.RowKit

def slotA (id k : Nat) : AskP := ⟨id, [48, 49, 50, 51, 52, 53, 54, 55, 56, 57, 48, 49, 50, 51, 52, 53, 54, 55, 56, 57], k, 2⟩
def slotR (id v : Nat) : ReplyP := ⟨id, 0, 0, [], v⟩
theorem slotA_ok {id k : Nat} (hi : id < M64) (hk : k < W256) : (slotA id k).Wf ∧ (slotA id k).Ok := ⟨⟨hi, hk, by show (-9223372036854775808 : Int) ≤ 2; decide, by show (2 : Int) ≤ 9223372036854775807; decide⟩, by show ([48, 49, 50, 51, 52, 53, 54, 55, 56, 57, 48, 49, 50, 51, 52, 53, 54, 55, 56, 57] : List UInt8).length = 20; rfl, Or.inl rfl⟩
theorem slotR_ok {id v : Nat} (hi : id < M64) (hv : v < W256) : (slotR id v).Wf ∧ (slotR id v).Ok 2 := ⟨⟨hi, by show 0 < M64; decide, by show 0 < W256; decide, hv⟩, by show 0 ≤ 24576; omega, Or.inr ⟨rfl, rfl, rfl, rfl⟩⟩
theorem slotA_v (id k : Nat) : askV (slotA id k) = .agg #[.int .u64 id, .string ⟨#[48, 49, 50, 51, 52, 53, 54, 55, 56, 57, 48, 49, 50, 51, 52, 53, 54, 55, 56, 57]⟩, .int .u64 (l3 k : Nat), .int .u64 (l2 k : Nat), .int .u64 (l1 k : Nat), .int .u64 (l0 k : Nat), .int .i64 2] := rfl
theorem slotR_v (id v : Nat) : replyV (slotR id v) = .agg #[.int .u64 id, .int .u64 0, .int .u64 0, .int .u64 0, .int .u64 0, .int .u64 0, .string ⟨#[]⟩, .int .u64 (l3 v : Nat), .int .u64 (l2 v : Nat), .int .u64 (l1 v : Nat), .int .u64 (l0 v : Nat)] := by
  unfold replyV slotR
  simp [lim_zero]
  rfl
set_option maxRecDepth 100000 in
set_option maxHeartbeats 4000000 in
theorem sizes_c (id : Nat) (hi : id < M64) (k : Nat) (hk : k < W256) (v : Nat) (hv : v < W256) (cut : Nat) (hc : cut < 256) (m : Nat) (hm : m < 256) (w : World) : Calls Try.prog 7 #[.int .u64 id, .agg #[.int .u64 (l3 k : Nat), .int .u64 (l2 k : Nat), .int .u64 (l1 k : Nat), .int .u64 (l0 k : Nat)], .agg #[.int .u64 (l3 v : Nat), .int .u64 (l2 v : Nat), .int .u64 (l1 v : Nat), .int .u64 (l0 v : Nat)], .int .u8 cut, .int .u8 m] w fun e w' => e = .returned (.bool true) ∧ Below w.heap.size w w' := by
  obtain ⟨wa, oa⟩ := slotA_ok hi hk
  obtain ⟨wr, or'⟩ := slotR_ok hi hv
  have hla : (slotA id k).enc.length ≠ 0 := fun h => enc_nil _ (List.eq_nil_of_length_eq_zero h)
  have hlr : ((slotR id v).enc 2).length ≠ 0 := by rw [reply_len]; omega
  have hba := AskP.enc_len wa oa
  have hbr := ReplyP.body_len wr or'
  have hbr' : ((slotR id v).enc 2).length ≤ 24707 := by rw [reply_len]; omega
  obtain ⟨na, hna⟩ : ∃ na, na = cut % (slotA id k).enc.length := ⟨_, rfl⟩
  obtain ⟨nr, hnr⟩ : ∃ nr, nr = cut % ((slotR id v).enc 2).length := ⟨_, rfl⟩
  have lna : na < (slotA id k).enc.length := by rw [hna]; exact Nat.mod_lt _ (by omega)
  have lnr : nr < ((slotR id v).enc 2).length := by rw [hnr]; exact Nat.mod_lt _ (by omega)
  have C1 := Lib.hid (fun W => putAsk_ok wa oa W)
  have C2 := Lib.hid (fun W => putReply_ok wr or' W)
  have C3 := Lib.hid (fun W => getAsk_none (ask_cut wa oa lna) W)
  have C4 := Lib.hid (fun W => getAsk_none (ask_more wa oa (UInt8.ofNat m)) W)
  have C5 := Lib.hid (fun W => getReply_none (reply_cut wr or' lnr) W)
  have C6 := Lib.hid (fun W => getReply_none (reply_more wr or' (UInt8.ofNat m)) W)
  rw [slotA_v] at C1
  rw [slotR_v] at C2
  have hxa : (str (slotA id k).enc).extract 0 na = str ((slotA id k).enc.take na) := str_take _ _
  have hxr : (str ((slotR id v).enc 2)).extract 0 nr = str (((slotR id v).enc 2).take nr) := str_take _ _
  have haa : str (slotA id k).enc ++ str [UInt8.ofNat m] = str ((slotA id k).enc ++ [UInt8.ofNat m]) := str_append _ _
  have har : str ((slotR id v).enc 2) ++ str [UInt8.ofNat m] = str ((slotR id v).enc 2 ++ [UInt8.ofNat m]) := str_append _ _
  have hsa : (str (slotA id k).enc).size = (slotA id k).enc.length := str_size _
  have hsr : (str ((slotR id v).enc 2)).size = ((slotR id v).enc 2).length := str_size _
  generalize (slotA id k).enc.length = La at *
  generalize ((slotR id v).enc 2).length = Lr at *
  generalize str ((slotA id k).enc.take na) = z1 at *
  generalize str (((slotR id v).enc 2).take nr) = z2 at *
  generalize str ((slotA id k).enc ++ [UInt8.ofNat m]) = z3 at *
  generalize str ((slotR id v).enc 2 ++ [UInt8.ofNat m]) = z4 at *
  generalize str (slotA id k).enc = y1 at *
  generalize str ((slotR id v).enc 2) = y2 at *
  have hcv := fun W => conv1 W m hm
  have hs3 : (str [UInt8.ofNat m]).size = 1 := str_size _
  have mx1 : ¬ 9223372036854775807 < La + (str [UInt8.ofNat m]).size := by omega
  have mx2 : ¬ 9223372036854775807 < Lr + (str [UInt8.ofNat m]).size := by omega
  generalize str [UInt8.ofNat m] = y3 at *
  clear hs3
  have ra : (cut : Int) % (La : Int) = (na : Int) := by rw [hna]; exact (Int.natCast_emod _ _).symm
  have rr : (cut : Int) % (Lr : Int) = (nr : Int) := by rw [hnr]; exact (Int.natCast_emod _ _).symm
  have ra' : (cut : Int).tmod (La : Int) = (na : Int) := by rw [Int.tmod_eq_emod_of_nonneg (by omega)]; exact ra
  have rr' : (cut : Int).tmod (Lr : Int) = (nr : Int) := by rw [Int.tmod_eq_emod_of_nonneg (by omega)]; exact rr
  have la9 : ¬ La = 0 := hla
  have lr9 : ¬ Lr = 0 := hlr
  have lq : ((La : Int) == 0) = false := by simp; omega
  have lp : ((Lr : Int) == 0) = false := by simp; omega
  have hw : wrap64 (cut : Int) = (cut : Int) := by unfold wrap64; omega
  have la0 : ¬ (La : Int) = 0 := by omega
  have lr0 : ¬ (Lr : Int) = 0 := by omega
  have la1 : (na : Int) ≤ (La : Int) := by omega
  have lr1 : (nr : Int) ≤ (Lr : Int) := by omega
  have k0 := alloc1 w #[.int .u64 (l3 k : Nat), .int .u64 (l2 k : Nat), .int .u64 (l1 k : Nat), .int .u64 (l0 k : Nat)] 24
  have k1 := alloc1 (w.alloc (.cells #[.int .u64 (l3 k : Nat), .int .u64 (l2 k : Nat), .int .u64 (l1 k : Nat), .int .u64 (l0 k : Nat)] 24)) #[.int .u64 (l3 v : Nat), .int .u64 (l2 v : Nat), .int .u64 (l1 v : Nat), .int .u64 (l0 v : Nat)] 24
  have k2 := k0.2.call k1.1
  have k3 := k0.1.trans (k1.1.mono k0.1.size)
  have kz : (w.alloc (.cells #[.int .u64 (l3 k : Nat), .int .u64 (l2 k : Nat), .int .u64 (l1 k : Nat), .int .u64 (l0 k : Nat)] 24)).heap.size = w.heap.size + 1 := by simp
  rw [kz] at k1
  have HA := Lib.hid (And.intro k2 (And.intro k1.2 k3))
  clear k0 k1 k2 k3 kz hba hbr hbr' hna hnr lna lnr wa oa wr or' hi hk hv hc
  go_enter Try.func7, Try.ntmps7
  go_wp2_with fail
  refine (examples_c _).mono ?_
  rintro e w1 ⟨rfl, hb⟩
  have k1 := HA.out.1.call hb
  have k2 := HA.out.2.1.call hb
  have b1 := HA.out.2.2.trans (hb.mono HA.out.2.2.size)
  obtain ⟨⟨c0, c1, c2, c3⟩, z0, z1', z2', z3'⟩ := cells4 k1
  have H1 := Lib.hid (And.intro k2 b1)
  clear k1 k2 b1 hb HA
  go_wp2_with fail
  refine (C1.out _).mono ?_
  rintro e w2 ⟨rfl, hb⟩
  have k1 := H1.out.1.call hb
  have b1 := H1.out.2.trans (hb.mono H1.out.2.size)
  clear c0 c1 c2 c3 z0 z1' z2' z3'
  obtain ⟨⟨c0, c1, c2, c3⟩, z0, z1', z2', z3'⟩ := cells4 k1
  have H2 := Lib.hid b1
  clear k1 b1 hb H1
  go_wp2_with fail
  refine (C2.out _).mono ?_
  rintro e w3 ⟨rfl, hb⟩
  have H3 := Lib.hid (H2.out.trans (hb.mono H2.out.size))
  clear c0 c1 c2 c3 z0 z1' z2' z3' hb H2
  go_wp2_with fail
  refine (C3.out _).mono ?_
  rintro e w4 ⟨rfl, hb⟩
  have b4 := H3.out.trans (hb.mono H3.out.size)
  have a4 := b4.trans ((alloc1 w4 #[.int .u64 0, .string ⟨#[]⟩, .int .u64 0, .int .u64 0, .int .u64 0, .int .u64 0, .int .i64 0] 26).1.mono b4.size)
  have e4 := a4.trans ((alloc1 (w4.alloc (.cells #[.int .u64 0, .string ⟨#[]⟩, .int .u64 0, .int .u64 0, .int .u64 0, .int .u64 0, .int .i64 0] 26)) #[.int .u8 m] 5).1.mono a4.size)
  have kz : (w4.alloc (.cells #[.int .u64 0, .string ⟨#[]⟩, .int .u64 0, .int .u64 0, .int .u64 0, .int .u64 0, .int .i64 0] 26)).heap.size = w4.heap.size + 1 := by simp
  have q1 := hcv (w4.alloc (.cells #[.int .u64 0, .string ⟨#[]⟩, .int .u64 0, .int .u64 0, .int .u64 0, .int .u64 0, .int .i64 0] 26))
  rw [kz] at q1
  have H4 := Lib.hid e4
  clear hb H3 b4 a4 e4 kz
  go_wp2_with fail
  refine (C4.out _).mono ?_
  rintro e w5 ⟨rfl, hb⟩
  have b5 := H4.out.trans (hb.mono H4.out.size)
  have H5 := Lib.hid (b5.trans ((alloc1 w5 #[.int .u64 0, .string ⟨#[]⟩, .int .u64 0, .int .u64 0, .int .u64 0, .int .u64 0, .int .i64 0] 26).1.mono b5.size))
  clear hb H4 b5 q1
  go_wp2_with fail
  refine (C5.out _).mono ?_
  rintro e w6 ⟨rfl, hb⟩
  have b6 := H5.out.trans (hb.mono H5.out.size)
  have a6 := b6.trans ((alloc1 w6 #[.int .u64 0, .int .u64 0, .int .u64 0, .int .u64 0, .int .u64 0, .int .u64 0, .string ⟨#[]⟩, .int .u64 0, .int .u64 0, .int .u64 0, .int .u64 0] 42).1.mono b6.size)
  have e6 := a6.trans ((alloc1 (w6.alloc (.cells #[.int .u64 0, .int .u64 0, .int .u64 0, .int .u64 0, .int .u64 0, .int .u64 0, .string ⟨#[]⟩, .int .u64 0, .int .u64 0, .int .u64 0, .int .u64 0] 42)) #[.int .u8 m] 5).1.mono a6.size)
  have kz : (w6.alloc (.cells #[.int .u64 0, .int .u64 0, .int .u64 0, .int .u64 0, .int .u64 0, .int .u64 0, .string ⟨#[]⟩, .int .u64 0, .int .u64 0, .int .u64 0, .int .u64 0] 42)).heap.size = w6.heap.size + 1 := by simp
  have q1 := hcv (w6.alloc (.cells #[.int .u64 0, .int .u64 0, .int .u64 0, .int .u64 0, .int .u64 0, .int .u64 0, .string ⟨#[]⟩, .int .u64 0, .int .u64 0, .int .u64 0, .int .u64 0] 42))
  rw [kz] at q1
  have H6 := Lib.hid e6
  clear hb H5 b6 a6 e6 kz
  go_wp2_with fail
  refine (C6.out _).mono ?_
  rintro e w7 ⟨rfl, hb⟩
  have b7 := H6.out.trans (hb.mono H6.out.size)
  have H7 := Lib.hid (b7.trans ((alloc1 w7 #[.int .u64 0, .int .u64 0, .int .u64 0, .int .u64 0, .int .u64 0, .int .u64 0, .string ⟨#[]⟩, .int .u64 0, .int .u64 0, .int .u64 0, .int .u64 0] 42).1.mono b7.size))
  clear hb H6 b7 q1
  go_wp2_with fail
  go_ret
  exact ⟨rfl, H7.out⟩
end Go.Proofs.Ytbhijjegkpjkcaa
end
section
namespace Go.Proofs.Ytbhijjegkpjkcaa
open Go.RowKit

/-- The byte at m is xored with x. -/
def turnB (s : List UInt8) (m : Nat) (x : UInt8) : List UInt8 := s.set m (s.getD m 0 ^^^ x)
theorem turnB_len (s : List UInt8) (m : Nat) (x : UInt8) : (turnB s m x).length = s.length := by simp [turnB]
theorem turnB_left {a b : List UInt8} {m : Nat} (h : m < a.length) (x : UInt8) : turnB (a ++ b) m x = turnB a m x ++ b := by
  unfold turnB
  rw [List.set_append_left _ _ h]
  congr 2
  simp [List.getElem?_append_left, h]
theorem turnB_right {a b : List UInt8} {m : Nat} (h : a.length ≤ m) (x : UInt8) : turnB (a ++ b) m x = a ++ turnB b (m - a.length) x := by
  unfold turnB
  rw [List.set_append_right _ _ h]
  congr 2
  simp [List.getElem?_append_right, h]
theorem xor_neB {b x : UInt8} (hx : x ≠ 0) : b ^^^ x ≠ b := fun h => hx (by
  have := congrArg (b ^^^ ·) h
  simpa [← UInt8.xor_assoc] using this)
theorem turnB_ne {s : List UInt8} {m : Nat} (h : m < s.length) {x : UInt8} (hx : x ≠ 0) : turnB s m x ≠ s := fun e => by
  have := congrArg (fun l => l.getD m 0) e
  simp only [turnB, List.getD_eq_getElem?_getD, List.getElem?_set_self h, Option.getD_some] at this
  exact xor_neB hx this
theorem byteAt_strB (l : List UInt8) (j : Nat) : byteAtK (str l) j = (l.getD j 0).toNat := by
  unfold byteAtK
  by_cases h : j < l.length
  · rw [dif_pos (by rw [str_size]; exact h)]
    simp [str, ByteArray.getElem_eq_getElem_data, h]
  · rw [dif_neg (by rw [str_size]; exact h)]
    simp [h]
theorem be4_injB {a b : Nat} (ha : a < 4294967296) (hb : b < 4294967296) (h : be4 a = be4 b) : a = b := by
  unfold be4 at h
  simp only [List.cons.injEq, and_true] at h
  obtain ⟨h0, h1, h2, h3⟩ := h
  have e0 := congrArg UInt8.toNat h0
  have e1 := congrArg UInt8.toNat h1
  have e2 := congrArg UInt8.toNat h2
  have e3 := congrArg UInt8.toNat h3
  simp only [UInt8.toNat_ofNat'] at e0 e1 e2 e3
  omega
theorem sum_turn {t : List UInt8} {j : Nat} (hj : j < t.length) {x : UInt8} (hx : x ≠ 0) : sumN (str (turnB t j x)) ≠ sumN (str t) := fun e => by
  unfold sumN at e
  rw [str_size, str_size, turnB_len] at e
  have hk := moreN_turn (byteAt_ltK _) (byteAt_ltK _) (k := j) (m := 1) (by omega) (by omega) (fun i hi ho => by
    rw [byteAt_strB, byteAt_strB]
    congr 1
    simp only [List.getD_eq_getElem?_getD]
    unfold turnB
    rw [List.getElem?_set_ne (by omega)]) e j (by omega)
  rw [byteAt_strB, byteAt_strB] at hk
  simp only [List.getD_eq_getElem?_getD] at hk
  unfold turnB at hk
  rw [List.getElem?_set_self hj, List.getElem?_eq_getElem hj] at hk
  simp only [Option.getD_some] at hk
  have := UInt8.toNat_inj.1 hk
  rw [List.getD_eq_getElem?_getD, List.getElem?_eq_getElem hj] at this
  exact xor_neB hx this
theorem reply_turn {kind : Int} {r : ReplyP} {j : Nat} (hj : j < (r.enc kind).length) {x : UInt8} (hx : x ≠ 0) : ∀ b : ReplyP, b.Wf → b.Ok kind → b.enc kind ≠ turnB (r.enc kind) j x := by
  intro b _ _ h
  unfold ReplyP.enc at h
  by_cases h4 : j < 4
  · rw [turnB_left (by rw [sum4_len]; exact h4)] at h
    obtain ⟨e1, e2⟩ := List.append_inj h (by rw [turnB_len, sum4_len, sum4_len])
    rw [e2] at e1
    exact turnB_ne (by rw [sum4_len]; exact h4) hx e1.symm
  · rw [turnB_right (by rw [sum4_len]; omega), sum4_len] at h
    obtain ⟨e1, e2⟩ := List.append_inj h (by rw [sum4_len, sum4_len])
    rw [e2] at e1
    rw [reply_len] at hj
    exact sum_turn (by omega) hx (be4_injB (sumN_lt _) (sumN_lt _) e1)
theorem reply_other {r : ReplyP} : ∀ b : ReplyP, b.Wf → b.Ok 2 → b.enc 2 ≠ r.enc 1 := by
  intro b hb ob h
  have h0 : b.body 2 = r.body 1 := by rw [← ReplyP.body_of, ← ReplyP.body_of, h]
  have h1 := enc_inj (x := b.it 2) (y := r.it 1) (by have := ReplyP.body_len hb ob; unfold ReplyP.body at this; omega) (b.dep 2) (r.dep 1) h0
  unfold ReplyP.it ReplyP.fo at h1
  rw [if_pos rfl, if_neg (by decide)] at h1
  simp at h1
end Go.Proofs.Ytbhijjegkpjkcaa
end
