/- Merged: Vl, Vm, Vn, Vp, Vq, Vr, Vo, Vs, RefA, Places, RefB, RefC. -/
import Derived.Test.YtekoaheiapddiaaGreatU20
import Derived.Test.YtekoaheiapddiaaGreatU15
import Derived.Test.YtekoaheiapddiaaGreatU05
import Derived.Lib.ConvBytes
import Derived.StillTailTactics
import Derived.Test.YtekoaheiapddiaaGreatU08
import Derived.Lib.SmallJoins
import Derived.Test.YtekoaheiapddiaaGreatU01
import Derived.RegionTactic
section
namespace Go.Proofs.YtekoaheiapddiaaGreat
open Go.RowKit

set_option maxRecDepth 100000 in
set_option maxHeartbeats 2000000 in
theorem rcatch_panicking (a b : Nat) (v0 v1 v2 v3 v4 v5 v6 v7 v8 v9 v10 v : Value) (u : TypeId) (pv : Value) (older : List PanicEntry) (w : World) (ha : w.heap[a]? = some (.cells #[v0, v1, v2, v3, v4, v5, v6, v7, v8, v9, v10] 119 (0, 0))) (hb : w.heap[b]? = some (.cells #[v] 4 (0, 0))) (hab : a ≠ b) :
    CallsD Tryz.prog 193 #[.pointer (some ⟨a, 0, none⟩), .pointer (some ⟨b, 0, none⟩)] (.panicking ({ v := .iface u pv, recovered := false } :: older)) w fun e u' w' =>
      e = .returned (.tuple #[]) ∧ u' = .panicking ({ v := .iface u pv, recovered := true } :: older) ∧
        w' = ((((((((((((w.alloc (.cells #[.int .u64 0, .int .u64 0, .int .u64 0, .int .u64 0, .int .u64 0, .int .u64 0, .string ⟨#[]⟩, .int .u64 0, .int .u64 0, .int .u64 0, .int .u64 0] 119)).setCell ⟨a, 0, none⟩ (.int .u64 0)).setCell ⟨a, 1, none⟩ (.int .u64 0)).setCell ⟨a, 2, none⟩ (.int .u64 0)).setCell ⟨a, 3, none⟩ (.int .u64 0)).setCell ⟨a, 4, none⟩ (.int .u64 0)).setCell ⟨a, 5, none⟩ (.int .u64 0)).setCell ⟨a, 6, none⟩ (.string ⟨#[]⟩)).setCell ⟨a, 7, none⟩ (.int .u64 0)).setCell ⟨a, 8, none⟩ (.int .u64 0)).setCell ⟨a, 9, none⟩ (.int .u64 0)).setCell ⟨a, 10, none⟩ (.int .u64 0)).setCell ⟨b, 0, none⟩ (.bool false) := by
  have ha' := (Below.heap_alloc w (.cells #[.int .u64 0, .int .u64 0, .int .u64 0, .int .u64 0, .int .u64 0, .int .u64 0, .string ⟨#[]⟩, .int .u64 0, .int .u64 0, .int .u64 0, .int .u64 0] 119) _ (lt_of ha)).trans ha
  have hb' := (Below.heap_alloc w (.cells #[.int .u64 0, .int .u64 0, .int .u64 0, .int .u64 0, .int .u64 0, .int .u64 0, .string ⟨#[]⟩, .int .u64 0, .int .u64 0, .int .u64 0, .int .u64 0] 119) _ (lt_of hb)).trans hb
  have hn := heap_alloc_new w (.cells #[.int .u64 0, .int .u64 0, .int .u64 0, .int .u64 0, .int .u64 0, .int .u64 0, .string ⟨#[]⟩, .int .u64 0, .int .u64 0, .int .u64 0, .int .u64 0] 119)
  obtain ⟨⟨c0, c1, c2, c3, c4, c5, c6, c7, c8, c9, c10⟩, z0, z1, z2, z3, z4, z5, z6, z7, z8, z9, z10⟩ := cells11 ha'
  obtain ⟨⟨d0, d1, d2, d3, d4, d5, d6, d7, d8, d9, d10⟩, _⟩ := cells11 hn
  have cb := cell_of hb' 0
  have zb := free_of hb' 0
  refine callsD_of_wpS Tryz.func193 rfl fun c₀ cs hu => ?_
  apply wpS_seq
  apply wpS_region
  simp [wpOpsS, go_sem, recoverD, hu, Tryz.ntmps193, Exit.thenS]
  refine wpS_cond (t := true) (by simp [Act.eval, Array.replicate]) ?_
  simp only [if_true]
  have cb' : (w.alloc (.cells #[.int .u64 0, .int .u64 0, .int .u64 0, .int .u64 0, .int .u64 0, .int .u64 0, .string ⟨#[]⟩, .int .u64 0, .int .u64 0, .int .u64 0, .int .u64 0] 119)).cell? ⟨b, 0, none⟩ = some v := cb
  have hab' : ¬ b = a := fun e => hab e.symm
  clear ha hb ha' hb' hn
  first | apply wpS_seq | skip
  apply wpS_region
  simp [wpOpsS, go_sem, Exit.thenS]
  try apply wpS_region
  simp [wpOpsS, go_sem, c0, c1, c2, c3, c4, c5, c6, c7, c8, c9, c10, z0, z1, z2, z3, z4, z5, z6, z7, z8, z9, z10, d0, d1, d2, d3, d4, d5, d6, d7, d8, d9, d10, cb', zb, bodyPostS, results, Tryz.results193]
theorem rcatch_idle (p q : Value) (w : World) :
    CallsD Tryz.prog 193 #[p, q] .returning w fun e u' w' => e = .returned (.tuple #[]) ∧ u' = .returning ∧ w' = w := by
  refine callsD_of_wpS Tryz.func193 rfl fun c₀ cs hu => ?_
  apply wpS_seq
  apply wpS_region
  simp [wpOpsS, go_sem, recoverD, hu, Tryz.ntmps193, Exit.thenS]
  refine wpS_cond (t := false) (by simp [Act.eval, Array.replicate]) ?_
  simp only [Bool.false_eq_true, if_false]
  refine wpS_of_wp (wp_skip ?_)
  cases c₀
  simp_all [bodyPostS, results, Tryz.results193]
theorem rr_results (tmps : Array Value) (w : World) (a b : Nat) (v0 v1 v2 v3 v4 v5 v6 v7 v8 v9 v10 v : Value) (hp : tmps.getD 8 undef = .pointer (some ⟨a, 0, none⟩)) (hq : tmps.getD 9 undef = .pointer (some ⟨b, 0, none⟩)) (ha : w.heap[a]? = some (.cells #[v0, v1, v2, v3, v4, v5, v6, v7, v8, v9, v10] 119 (0, 0))) (hb : w.heap[b]? = some (.cells #[v] 4 (0, 0))) :
    (results Tryz.f152 tmps).run Tryz.prog w = .ok (.tuple #[.agg #[v0, v1, v2, v3, v4, v5, v6, v7, v8, v9, v10], v]) w := by
  obtain ⟨⟨c0, c1, c2, c3, c4, c5, c6, c7, c8, c9, c10⟩, _⟩ := cells11 ha
  have cb : w.cell? ⟨b, 0, none⟩ = some v := cell_of hb 0
  have hp' : tmps[8]?.getD undef = .pointer (some ⟨a, 0, none⟩) := by simpa using hp
  have hq' : tmps[9]?.getD undef = .pointer (some ⟨b, 0, none⟩) := by simpa using hq
  simp [results, Tryz.results152, hp', hq', go_sem, c0, c1, c2, c3, c4, c5, c6, c7, c8, c9, c10, cb]
/-- Both results' boxes, as the call goes on. -/
structure Rb (w : World) (cs : Array Value) (v : Value) (V : World) : Prop where
  below : Below w.heap.size w V
  got : V.heap[w.heap.size]? = some (.cells cs 119 (0, 0))
  ok : V.heap[w.heap.size + 1]? = some (.cells #[v] 4 (0, 0))
section
variable {w V V' : World} {cs : Array Value} {v : Value}
theorem Rb.call (h : Rb w cs v V) (hb : Below V.heap.size V V') : Rb w cs v V' := ⟨h.below.trans (hb.mono h.below.size), (hb.block _ (lt_of h.got)).trans h.got, (hb.block _ (lt_of h.ok)).trans h.ok⟩
theorem Rb.only {g : Nat} (h : Rb w cs v V) (hg : w.heap.size + 1 < g) (ho : Only (fun k => k = g) V.heap.size V V') : Rb w cs v V' :=
  ⟨h.below.trans (Only.below (ho.mono (B' := w.heap.size) h.below.size (fun _ _ k => k)) (Nat.le_refl _) (fun k hk e => by omega)), (ho.block _ (lt_of h.got) (by omega)).trans h.got, (ho.block _ (lt_of h.ok) (by omega)).trans h.ok⟩
theorem Rb.start (w : World) (cs : Array Value) (v : Value) : Rb w cs v ((w.alloc (.cells cs 119)).alloc (.cells #[v] 4)) :=
  ⟨((Below.refl _ _).alloc (Nat.le_refl _) _).alloc (by simp) _, heap_alloc2_old w _ _, heap_alloc2_new w _ _⟩
theorem Rb.put {v0 v1 v2 v3 v4 v5 v6 v7 v8 v9 v10 : Value} (h : Rb w #[v0, v1, v2, v3, v4, v5, v6, v7, v8, v9, v10] v V) (u0 u1 u2 u3 u4 u5 u6 u7 u8 u9 u10 : Value) : Rb w #[u0, u1, u2, u3, u4, u5, u6, u7, u8, u9, u10] v (((((((((((V.setCell ⟨w.heap.size, 0, none⟩ u0).setCell ⟨w.heap.size, 1, none⟩ u1).setCell ⟨w.heap.size, 2, none⟩ u2).setCell ⟨w.heap.size, 3, none⟩ u3).setCell ⟨w.heap.size, 4, none⟩ u4).setCell ⟨w.heap.size, 5, none⟩ u5).setCell ⟨w.heap.size, 6, none⟩ u6).setCell ⟨w.heap.size, 7, none⟩ u7).setCell ⟨w.heap.size, 8, none⟩ u8).setCell ⟨w.heap.size, 9, none⟩ u9).setCell ⟨w.heap.size, 10, none⟩ u10) := by
  refine ⟨Below.set11 h.below (Nat.le_refl _) u0 u1 u2 u3 u4 u5 u6 u7 u8 u9 u10, set11 h.got u0 u1 u2 u3 u4 u5 u6 u7 u8 u9 u10, ?_⟩
  rw [heap_setCell_other _ _ _ _ (by simp), heap_setCell_other _ _ _ _ (by simp), heap_setCell_other _ _ _ _ (by simp), heap_setCell_other _ _ _ _ (by simp), heap_setCell_other _ _ _ _ (by simp), heap_setCell_other _ _ _ _ (by simp), heap_setCell_other _ _ _ _ (by simp), heap_setCell_other _ _ _ _ (by simp), heap_setCell_other _ _ _ _ (by simp), heap_setCell_other _ _ _ _ (by simp), heap_setCell_other _ _ _ _ (by simp)]
  exact h.ok
theorem Rb.flag (h : Rb w cs v V) (u : Value) : Rb w cs u (V.setCell ⟨w.heap.size + 1, 0, none⟩ u) := by
  refine ⟨h.below.setCell (p := ⟨w.heap.size + 1, 0, none⟩) (by simp) _, (heap_setCell_other _ _ _ _ (by simp)).trans h.got, ?_⟩
  have e := heap_setCell_same _ _ 0 _ _ u h.ok
  simpa using e
theorem Rb.caught {v0 v1 v2 v3 v4 v5 v6 v7 v8 v9 v10 : Value} (h : Rb w #[v0, v1, v2, v3, v4, v5, v6, v7, v8, v9, v10] v V) : Rb w #[.int .u64 0, .int .u64 0, .int .u64 0, .int .u64 0, .int .u64 0, .int .u64 0, .string ⟨#[]⟩, .int .u64 0, .int .u64 0, .int .u64 0, .int .u64 0] (.bool false) (((((((((((((V.alloc (.cells #[.int .u64 0, .int .u64 0, .int .u64 0, .int .u64 0, .int .u64 0, .int .u64 0, .string ⟨#[]⟩, .int .u64 0, .int .u64 0, .int .u64 0, .int .u64 0] 119)).setCell ⟨w.heap.size, 0, none⟩ (.int .u64 0)).setCell ⟨w.heap.size, 1, none⟩ (.int .u64 0)).setCell ⟨w.heap.size, 2, none⟩ (.int .u64 0)).setCell ⟨w.heap.size, 3, none⟩ (.int .u64 0)).setCell ⟨w.heap.size, 4, none⟩ (.int .u64 0)).setCell ⟨w.heap.size, 5, none⟩ (.int .u64 0)).setCell ⟨w.heap.size, 6, none⟩ (.string ⟨#[]⟩)).setCell ⟨w.heap.size, 7, none⟩ (.int .u64 0)).setCell ⟨w.heap.size, 8, none⟩ (.int .u64 0)).setCell ⟨w.heap.size, 9, none⟩ (.int .u64 0)).setCell ⟨w.heap.size, 10, none⟩ (.int .u64 0)).setCell ⟨w.heap.size + 1, 0, none⟩ (.bool false)) :=
  ((h.call ((Below.refl _ _).alloc (Nat.le_refl _) _)).put _ _ _ _ _ _ _ _ _ _ _).flag _
end
/-- What GetReply answers. -/
def replyO : Option ReplyP → Value
  | none => .tuple #[.agg #[.int .u64 0, .int .u64 0, .int .u64 0, .int .u64 0, .int .u64 0, .int .u64 0, .string ⟨#[]⟩, .int .u64 0, .int .u64 0, .int .u64 0, .int .u64 0], .bool false]
  | some a => .tuple #[replyV a, .bool true]
def GetReplyR (kind : Int) (s : List UInt8) (w : World) (e : Ending) (w' : World) : Prop := ∃ o, ReplyIs kind s o ∧ e = .returned (replyO o) ∧ Below w.heap.size w w'
theorem enterQ (args : Array Value) (w : World) : (callFunc 153 args).run Tryz.prog w = .ok (.enter 153 args) w := enters_of Tryz.func153 (by kernel_rfl) rfl args w
theorem enterV (args : Array Value) (w : World) : (callFunc 150 args).run Tryz.prog w = .ok (.enter 150 args) w := enters_of Tryz.func150 (by kernel_rfl) rfl args w
theorem enterC (args : Array Value) (w : World) : (callFunc 151 args).run Tryz.prog w = .ok (.enter 151 args) w := enters_of Tryz.func151 (by kernel_rfl) rfl args w
set_option maxRecDepth 100000 in
theorem putQ_c (kind : Int) {a : ReplyP} (hw : a.Wf) (kb : Nat) (w : World) (hk : w.heap[kb]? = some (.cells #[.int .i64 kind] 3 (0, 0))) : Calls Tryz.prog 153 #[replyV a, .pointer (some ⟨kb, 0, none⟩)] w fun e w' => e = .returned (putReplyV kind a) ∧ Below w.heap.size w w' := by
  have hal : Below w.heap.size w (w.alloc (.cells #[.int .u64 a.id, .int .u64 a.nonce, .int .u64 (l3 a.bal : Nat), .int .u64 (l2 a.bal : Nat), .int .u64 (l1 a.bal : Nat), .int .u64 (l0 a.bal : Nat), .string (str a.code), .int .u64 (l3 a.value : Nat), .int .u64 (l2 a.value : Nat), .int .u64 (l1 a.value : Nat), .int .u64 (l0 a.value : Nat)] 119)) := (Below.refl _ _).alloc (Nat.le_refl _) _
  have c0 := cell_of ((hal.block _ (lt_of hk)).trans hk) 0
  have C := Lib.hid (fun V => putReply_c kind hw V)
  have H := Lib.hid hal
  unfold replyV at C ⊢
  unfold putReplyV at *
  clear hw hk hal
  generalize decide (a.Ok kind) = ok at *
  generalize str (if a.Ok kind then a.enc kind else []) = z at *
  go_enter Tryz.func153, Tryz.ntmps153
  go_wp2_with fail
  refine (C.out _).mono ?_
  rintro e w1 ⟨rfl, hb⟩
  have HB := Lib.hid (H.out.trans (hb.mono (by simp)))
  clear hb C H
  go_wp2_with fail
  go_ret2
  exact ⟨rfl, HB.out⟩
set_option maxRecDepth 100000 in
set_option maxHeartbeats 4000000 in
theorem readReply_c (kind : Int) (Fn9 : FuncId) (hen : ∀ (args : Array Value) (w : World), (callFunc Fn9 args).run Tryz.prog w = .ok (.enter Fn9 args) w)
    (hF : ∀ {S : Nat → Prop} {g : Nat} {f : Fo} {w : World}, Fd S g f w → f.enc.length ≤ 70000 → Calls Tryz.prog Fn9 #[fN g, fT g, fW g] w fun e w' => RepR kind g f w e w')
    (s : List UInt8) (kb : Nat) (w : World) (hkb : w.heap[kb]? = some (.cells #[.int .i64 kind] 3 (0, 0))) : Calls Tryz.prog 152 #[.string (str s), .int .i64 4, .func (.func Fn9) #[] #[], .func (.func 153) #[] #[.pointer (some ⟨kb, 0, none⟩)]] w fun e w' => GetReplyR kind s w e w' := by
  have hsl : (str s).extract 4 (str s).size = str (s.drop 4) := str_drop s 4
  have hsz := str_size s
  have HD := Lib.hid (fun V => decode_n (s.drop 4) V)
  have hm := hmf
  have A0 := Lib.hid (Rb.start w #[.int .u64 0, .int .u64 0, .int .u64 0, .int .u64 0, .int .u64 0, .int .u64 0, .string ⟨#[]⟩, .int .u64 0, .int .u64 0, .int .u64 0, .int .u64 0] (.bool false))
  have HT := Lib.hid (str_eq · s)
  have HK := Lib.hid (And.intro hkb (lt_of hkb))
  have enQ := enterQ
  have HX0 := Lib.hid (fun (a : ReplyP) (hw : a.Wf) (ho : a.Ok kind) (h : a.enc kind = s) => show decV (s.drop 4) = (a.it kind, 0) from by
    have hbd : s.drop 4 = a.body kind := by rw [← h, ReplyP.body_of]
    exact decV_of hbd.symm (by have := ReplyP.body_len hw ho; unfold ReplyP.body at this; omega) (a.dep kind))
  have HL4 := Lib.hid (fun (a : ReplyP) (h : a.enc kind = s) => show 4 ≤ s.length from by rw [← h]; unfold ReplyP.enc; rw [List.length_append, sum4_len]; omega)
  generalize str (s.drop 4) = y4 at *
  generalize hst : str s = y at *
  have HS := Lib.hid hst
  clear hst hkb
  by_cases h4 : 4 ≤ s.length
  · have hz4 : (4 : Int) ≤ (y.size : Int) := by omega
    have hz5 : 4 ≤ y.size := by omega
    clear hsz
    go_enter_defers Tryz.func152, Tryz.ntmps152
    go_wp2_with fail
    refine (wmust_ok _).mono ?_
    rintro e w1 ⟨rfl, rfl⟩
    go_wp2_with fail
    refine (HD.out _).mono ?_
    rintro e w2 ⟨v, rfl, hv, hb⟩
    obtain ⟨b2, t2, u2, rfl, hi⟩ := SlF_inner hv
    obtain ⟨a2, n2, c2, rfl⟩ := hi.form
    have A2 := Lib.hid (A0.out.call hb)
    have hs2 := hb.size
    simp only [alloc_size] at hs2 hi
    clear hv hb A0 HD
    by_cases her : (decV (s.drop 4)).2 = 0
    · have hen2 := decV_ok her
      have hil := inner_len (decV (s.drop 4)).1
      have hle : (decV (s.drop 4)).1.enc.length ≤ 65536 := decV_enc (s.drop 4)
      have HX := Lib.hid (fun (a : ReplyP) (hw : a.Wf) (ho : a.Ok kind) (h : a.enc kind = s) => show (decV (s.drop 4)).1.inner = a.fo kind from by rw [HX0.out a hw ho h]; rfl)
      have HI := Lib.hid (And.intro hi (show (decV (s.drop 4)).1.inner.enc.length ≤ 70000 by omega))
      rw [her]
      clear her hen2 hil hle hi
      generalize (decV (s.drop 4)).1.inner = f at *
      obtain ⟨W3, hW3⟩ : ∃ W3, W3 = (w2.alloc (.cells #[.bool b2, .string t2, .slice a2 n2 c2] 198)).alloc (.cells #[.slice a2 n2 c2] 286) := ⟨_, rfl⟩
      have hb3 : Below w2.heap.size w2 W3 := by rw [hW3]; exact ((Below.refl _ _).alloc (Nat.le_refl _) _).alloc (by simp) _
      have A3 := Lib.hid (A2.out.call hb3)
      have hfd : Fd (fun k => w.heap.size + 1 + 1 ≤ k ∧ k < w2.heap.size) (w2.heap.size + 1) f W3 := by
        refine ⟨fun k hk => ⟨by have := hb3.size; omega, by omega⟩, _, by rw [hW3]; exact heap_alloc2_new _ _ _, HI.out.1.kept fun k hk => hb3.block k hk.2⟩
      have HA := Lib.hid (hF hfd HI.out.2)
      have HW := Lib.hid hW3
      clear hb3 hfd hW3
      unfold fN fT fW at HA
      go_wp2_with fail
      refine (wmust_ok _).mono ?_
      rintro e w4 ⟨rfl, rfl⟩
      go_wp2_with fail
      rw [← HW.out]
      refine HA.out.mono ?_
      rintro e w5 ⟨ho, hr⟩
      have A5 := Lib.hid (A3.out.only (by omega) ho)
      clear ho A3 HA HI
      rcases hr with ⟨rfl, hno⟩ | ⟨a, rfl, haw, hone⟩
      · have HN := Lib.hid (show ReplyIs kind s none from fun a hw ho h => hno a hw ho (HX.out a hw ho h))
        clear hno HX
        refine leaves_cons (f := 193) (args := #[.pointer (some ⟨w.heap.size, 0, none⟩), .pointer (some ⟨w.heap.size + 1, 0, none⟩)]) (by simp) (by simp [go_sem]) ?_
        refine (rcatch_panicking w.heap.size (w.heap.size + 1) _ _ _ _ _ _ _ _ _ _ _ _ 27 (.int .i64 2) [] _ A5.out.got A5.out.ok (by omega)).mono ?_
        rintro e u' w'' ⟨rfl, rfl, rfl⟩
        refine ⟨_, rr_results _ _ w.heap.size (w.heap.size + 1) _ _ _ _ _ _ _ _ _ _ _ _ rfl rfl A5.out.caught.got A5.out.caught.ok, ?_⟩
        exact ⟨none, HN.out, rfl, A5.out.caught.below⟩
      · have HN := Lib.hid (show ¬ (a.Ok kind ∧ a.enc kind = s) → ReplyIs kind s none from fun hn b hw ho h => hn (by
          have := hone b hw ho (HX.out b hw ho h)
          subst this
          exact ⟨ho, h⟩))
        obtain ⟨⟨c0, c1, c2, c3, c4, c5, c6, c7, c8, c9, c10⟩, z0, z1, z2, z3, z4, z5, z6, z7, z8, z9, z10⟩ := cells11 A5.out.got
        have A6 := A5.out.put (.int .u64 a.id) (.int .u64 a.nonce) (.int .u64 (l3 a.bal : Nat)) (.int .u64 (l2 a.bal : Nat)) (.int .u64 (l1 a.bal : Nat)) (.int .u64 (l0 a.bal : Nat)) (.string (str a.code)) (.int .u64 (l3 a.value : Nat)) (.int .u64 (l2 a.value : Nat)) (.int .u64 (l1 a.value : Nat)) (.int .u64 (l0 a.value : Nat))
        obtain ⟨⟨d0, d1, d2, d3, d4, d5, d6, d7, d8, d9, d10⟩, _⟩ := cells11 A6.got
        have H6 := Lib.hid A6
        have HP := Lib.hid (putQ_c kind haw kb _ ((A6.below.block _ HK.out.2).trans HK.out.1))
        have HWa := Lib.hid haw
        clear hone haw HX A6
        unfold replyV at HP ⊢
        go_wp2_with fail
        refine HP.out.mono ?_
        rintro e w7 ⟨rfl, hb7⟩
        have A7 := Lib.hid (H6.out.call hb7)
        clear hb7 HP H6 c0 c1 c2 c3 c4 c5 c6 c7 c8 c9 c10 z0 z1 z2 z3 z4 z5 z6 z7 z8 z9 z10 d0 d1 d2 d3 d4 d5 d6 d7 d8 d9 d10
        have q0 := cell_of A7.out.ok 0
        have q1 := free_of A7.out.ok 0
        by_cases hok : a.Ok kind
        · rw [putReplyV_ok hok]
          have A8 := Lib.hid (A7.out.flag (.bool true))
          have q2 := cell_of A8.out.ok 0
          by_cases he : a.enc kind = s
          · have hcmp : ((str (a.enc kind)).toList == y.toList) = true := by rw [HT.out, he]; simp
            have HO := Lib.hid (show ReplyIs kind s (some a) from ⟨HWa.out, hok, he⟩)
            clear hok he HN
            generalize str (a.enc kind) = z at *
            go_wp2_with fail
            refine (wmust_ok _).mono ?_
            rintro e w9 ⟨rfl, rfl⟩
            obtain ⟨⟨c0, c1, c2, c3, c4, c5, c6, c7, c8, c9, c10⟩, z0, z1, z2, z3, z4, z5, z6, z7, z8, z9, z10⟩ := cells11 A8.out.got
            have A9 := A8.out.put (.int .u64 a.id) (.int .u64 a.nonce) (.int .u64 (l3 a.bal : Nat)) (.int .u64 (l2 a.bal : Nat)) (.int .u64 (l1 a.bal : Nat)) (.int .u64 (l0 a.bal : Nat)) (.string (str a.code)) (.int .u64 (l3 a.value : Nat)) (.int .u64 (l2 a.value : Nat)) (.int .u64 (l1 a.value : Nat)) (.int .u64 (l0 a.value : Nat))
            have q5 := cell_of A9.ok 0
            have q6 := free_of A9.ok 0
            have H9 := Lib.hid (A9.flag (.bool true))
            clear A9 q0 q1 q2
            go_wp2_with fail
            refine leaves_cons (f := 193) (args := #[.pointer (some ⟨w.heap.size, 0, none⟩), .pointer (some ⟨w.heap.size + 1, 0, none⟩)]) (by simp) (by simp [go_sem]) ?_
            refine (rcatch_idle _ _ _).mono ?_
            rintro e u' w'' ⟨rfl, rfl, rfl⟩
            refine ⟨_, rr_results _ _ w.heap.size (w.heap.size + 1) _ _ _ _ _ _ _ _ _ _ _ _ rfl rfl H9.out.got H9.out.ok, ?_⟩
            exact ⟨some a, HO.out, rfl, H9.out.below⟩
          · have hcmp : ((str (a.enc kind)).toList == y.toList) = false := by rw [HT.out]; simp [he]
            have HO := Lib.hid (HN.out (fun h => he h.2))
            clear hok he HN
            generalize str (a.enc kind) = z at *
            go_wp2_with fail
            refine (wmust_no _).mono ?_
            rintro e w9 ⟨rfl, rfl⟩
            refine leaves_cons (f := 193) (args := #[.pointer (some ⟨w.heap.size, 0, none⟩), .pointer (some ⟨w.heap.size + 1, 0, none⟩)]) (by simp) (by simp [go_sem]) ?_
            refine (rcatch_panicking w.heap.size (w.heap.size + 1) _ _ _ _ _ _ _ _ _ _ _ _ 27 (.int .i64 2) [] _ A8.out.got A8.out.ok (by omega)).mono ?_
            rintro e u' w'' ⟨rfl, rfl, rfl⟩
            refine ⟨_, rr_results _ _ w.heap.size (w.heap.size + 1) _ _ _ _ _ _ _ _ _ _ _ _ rfl rfl A8.out.caught.got A8.out.caught.ok, ?_⟩
            exact ⟨none, HO.out, rfl, A8.out.caught.below⟩
        · rw [putReplyV_no hok]
          have A8 := Lib.hid (A7.out.flag (.bool false))
          have q2 := cell_of A8.out.ok 0
          have HO := Lib.hid (HN.out (fun h => hok h.1))
          clear hok HN
          go_wp2_with fail
          refine (wmust_no _).mono ?_
          rintro e w9 ⟨rfl, rfl⟩
          refine leaves_cons (f := 193) (args := #[.pointer (some ⟨w.heap.size, 0, none⟩), .pointer (some ⟨w.heap.size + 1, 0, none⟩)]) (by simp) (by simp [go_sem]) ?_
          refine (rcatch_panicking w.heap.size (w.heap.size + 1) _ _ _ _ _ _ _ _ _ _ _ _ 27 (.int .i64 2) [] _ A8.out.got A8.out.ok (by omega)).mono ?_
          rintro e u' w'' ⟨rfl, rfl, rfl⟩
          refine ⟨_, rr_results _ _ w.heap.size (w.heap.size + 1) _ _ _ _ _ _ _ _ _ _ _ _ rfl rfl A8.out.caught.got A8.out.caught.ok, ?_⟩
          exact ⟨none, HO.out, rfl, A8.out.caught.below⟩
    · have HN := Lib.hid (show ReplyIs kind s none from fun a hw ho h => her (by rw [HX0.out a hw ho h]))
      have heb : ((((decV (s.drop 4)).2 : Nat) : Int) == 0) = false := by rw [beq_eq_false_iff_ne]; omega
      generalize (decV (s.drop 4)).2 = er at *
      have A3 := Lib.hid (A2.out.call ((Below.refl w2.heap.size w2).alloc (Nat.le_refl _) (.cells #[.bool b2, .string t2, .slice a2 n2 c2] 198)))
      clear her hi
      go_wp2_with fail
      refine (wmust_no _).mono ?_
      rintro e w9 ⟨rfl, rfl⟩
      refine leaves_cons (f := 193) (args := #[.pointer (some ⟨w.heap.size, 0, none⟩), .pointer (some ⟨w.heap.size + 1, 0, none⟩)]) (by simp) (by simp [go_sem]) ?_
      refine (rcatch_panicking w.heap.size (w.heap.size + 1) _ _ _ _ _ _ _ _ _ _ _ _ 27 (.int .i64 2) [] _ A3.out.got A3.out.ok (by omega)).mono ?_
      rintro e u' w'' ⟨rfl, rfl, rfl⟩
      refine ⟨_, rr_results _ _ w.heap.size (w.heap.size + 1) _ _ _ _ _ _ _ _ _ _ _ _ rfl rfl A3.out.caught.got A3.out.caught.ok, ?_⟩
      exact ⟨none, HN.out, rfl, A3.out.caught.below⟩
  · have HN := Lib.hid (show ReplyIs kind s none from fun a _ _ h => h4 (HL4.out a h))
    have hz4 : ¬ (4 : Int) ≤ (y.size : Int) := by omega
    clear hsz h4
    go_enter_defers Tryz.func152, Tryz.ntmps152
    go_wp2_with fail
    refine (wmust_no _).mono ?_
    rintro e w9 ⟨rfl, rfl⟩
    refine leaves_cons (f := 193) (args := #[.pointer (some ⟨w.heap.size, 0, none⟩), .pointer (some ⟨w.heap.size + 1, 0, none⟩)]) (by simp) (by simp [go_sem]) ?_
    refine (rcatch_panicking w.heap.size (w.heap.size + 1) _ _ _ _ _ _ _ _ _ _ _ _ 27 (.int .i64 2) [] _ A0.out.got A0.out.ok (by omega)).mono ?_
    rintro e u' w'' ⟨rfl, rfl, rfl⟩
    refine ⟨_, rr_results _ _ w.heap.size (w.heap.size + 1) _ _ _ _ _ _ _ _ _ _ _ _ rfl rfl A0.out.caught.got A0.out.caught.ok, ?_⟩
    exact ⟨none, HN.out, rfl, A0.out.caught.below⟩
set_option maxRecDepth 100000 in
set_option maxHeartbeats 2000000 in
theorem getReply_c (kind : Int) (s : List UInt8) (w : World) : Calls Tryz.prog 105 #[.int .i64 kind, .string (str s)] w fun e w' => GetReplyR kind s w e w' := by
  have hal : Below w.heap.size w ((w.alloc (.cells #[.int .i64 kind] 3)).alloc (.cells #[.int .u64 0, .int .u64 0, .int .u64 0, .int .u64 0, .int .u64 0, .int .u64 0, .string ⟨#[]⟩, .int .u64 0, .int .u64 0, .int .u64 0, .int .u64 0] 119)) := ((Below.refl _ _).alloc (Nat.le_refl _) _).alloc (by simp) _
  have hk0 := heap_alloc2_old w (.cells #[.int .i64 kind] 3) (.cells #[.int .u64 0, .int .u64 0, .int .u64 0, .int .u64 0, .int .u64 0, .int .u64 0, .string ⟨#[]⟩, .int .u64 0, .int .u64 0, .int .u64 0, .int .u64 0] 119)
  have hx := heap_alloc2_new w (.cells #[.int .i64 kind] 3) (.cells #[.int .u64 0, .int .u64 0, .int .u64 0, .int .u64 0, .int .u64 0, .int .u64 0, .string ⟨#[]⟩, .int .u64 0, .int .u64 0, .int .u64 0, .int .u64 0] 119)
  have hm := hmf
  have ck := cell_of hk0 0
  have HA := Lib.hid (And.intro hal (And.intro hk0 hx))
  clear hal hk0 hx
  by_cases hk : kind = 1
  · have C := Lib.hid (fun V hV => readReply_c kind 151 enterC (fun {S g f w} h hl => by rw [hk]; exact account_c h hl) s w.heap.size V hV)
    have hkb : (kind == 1) = true := by simp [hk]
    clear hk
    generalize str s = y at *
    go_enter Tryz.func105, Tryz.ntmps105
    go_wp2_with fail
    refine (C.out _ HA.out.2.1).mono ?_
    rintro e w1 ⟨o, ho, rfl, hb⟩
    have kb := (hb.block _ (by simp)).trans HA.out.2.2
    obtain ⟨⟨c0, c1, c2, c3, c4, c5, c6, c7, c8, c9, c10⟩, z0, z1, z2, z3, z4, z5, z6, z7, z8, z9, z10⟩ := cells11 kb
    have HB := Lib.hid (And.intro (HA.out.1.trans (hb.mono (by simp; omega))) kb)
    have HO := Lib.hid ho
    clear hb kb ho HA C ck
    cases o with
    | none =>
      unfold replyO
      go_wp2_with fail
      exact bodyPost_ret (results_cell_slot Tryz.results105 _ _ _ _ _ _ _ _ rfl rfl (set11 HB.out.2 _ _ _ _ _ _ _ _ _ _ _) Tryz.underlying119 rfl (by kernel_rfl)) rfl ⟨none, HO.out, rfl, Below.set11 HB.out.1 (by omega) _ _ _ _ _ _ _ _ _ _ _⟩
    | some a =>
      unfold replyO replyV
      go_wp2_with fail
      exact bodyPost_ret (results_cell_slot Tryz.results105 _ _ _ _ _ _ _ _ rfl rfl (set11 HB.out.2 _ _ _ _ _ _ _ _ _ _ _) Tryz.underlying119 rfl (by kernel_rfl)) rfl ⟨some a, HO.out, rfl, Below.set11 HB.out.1 (by omega) _ _ _ _ _ _ _ _ _ _ _⟩
  · have C := Lib.hid (fun V hV => readReply_c kind 150 enterV (fun {S g f w} h hl => value_c hk h hl) s w.heap.size V hV)
    have hkb : (kind == 1) = false := by simp [hk]
    clear hk
    generalize str s = y at *
    go_enter Tryz.func105, Tryz.ntmps105
    go_wp2_with fail
    refine (C.out _ HA.out.2.1).mono ?_
    rintro e w1 ⟨o, ho, rfl, hb⟩
    have kb := (hb.block _ (by simp)).trans HA.out.2.2
    obtain ⟨⟨c0, c1, c2, c3, c4, c5, c6, c7, c8, c9, c10⟩, z0, z1, z2, z3, z4, z5, z6, z7, z8, z9, z10⟩ := cells11 kb
    have HB := Lib.hid (And.intro (HA.out.1.trans (hb.mono (by simp; omega))) kb)
    have HO := Lib.hid ho
    clear hb kb ho HA C ck
    cases o with
    | none =>
      unfold replyO
      go_wp2_with fail
      exact bodyPost_ret (results_cell_slot Tryz.results105 _ _ _ _ _ _ _ _ rfl rfl (set11 HB.out.2 _ _ _ _ _ _ _ _ _ _ _) Tryz.underlying119 rfl (by kernel_rfl)) rfl ⟨none, HO.out, rfl, Below.set11 HB.out.1 (by omega) _ _ _ _ _ _ _ _ _ _ _⟩
    | some a =>
      unfold replyO replyV
      go_wp2_with fail
      exact bodyPost_ret (results_cell_slot Tryz.results105 _ _ _ _ _ _ _ _ rfl rfl (set11 HB.out.2 _ _ _ _ _ _ _ _ _ _ _) Tryz.underlying119 rfl (by kernel_rfl)) rfl ⟨some a, HO.out, rfl, Below.set11 HB.out.1 (by omega) _ _ _ _ _ _ _ _ _ _ _⟩
end Go.Proofs.YtekoaheiapddiaaGreat
end
section
namespace Go.Proofs.YtekoaheiapddiaaGreat
open Go.RowKit

theorem str_of' (s : ByteArray) : str s.data.toList = s := by cases s; simp [str]
end Go.Proofs.YtekoaheiapddiaaGreat
end
section
namespace Go.Proofs.YtekoaheiapddiaaGreat
open Go.RowKit

/-- Bytes in a block, that may be written. -/
def Bt (g n : Nat) (P : Nat → Nat) (W : World) : Prop := ∀ j, j < n → W.cell? ⟨g, j, none⟩ = some (.int .u8 (P j : Nat)) ∧ W.frozen? ⟨g, j, none⟩ = false
theorem Bt.set {g n : Nat} {P : Nat → Nat} {W : World} (h : Bt g n P W) {k : Nat} (hk : k < n) (v : Nat) : Bt g n (upd P k v) (W.setCell ⟨g, k, none⟩ (.int .u8 (v : Nat))) := fun j hj => by
  refine ⟨?_, by rw [World.frozen?_setCell]; exact (h j hj).2⟩
  by_cases e : j = k
  · subst e
    rw [World.cell?_setCell_same _ _ _ (h j hj).1, upd_same]
  · rw [World.cell?_setCell_other _ _ _ _ (by intro e'; injection e' with e1 e2; omega), upd_other _ _ e]
    exact (h j hj).1
theorem Bt.congr {g n : Nat} {P Q : Nat → Nat} {W : World} (h : Bt g n P W) (e : ∀ j, j < n → P j = Q j) : Bt g n Q W := fun j hj => by rw [← e j hj]; exact h j hj
theorem Bt.conv {g n : Nat} {P : Nat → Nat} {W : World} (h : Bt g n P W) (hP : ∀ j, P j < 256) (cap : Nat) :
    (convert 218 9 (.slice (some ⟨g, 0, none⟩) n cap)).run Tryz.prog W = .ok (.string (txt n P)) W := by
  have := Lib.run_convert_whole (P := Tryz.prog) W 218 5 9 Tryz.underlying218 Tryz.underlying5 Tryz.underlying9 g 0 (txt n P) (by
    intro i hi
    rw [txt_size] at hi
    have e : (txt n P)[i]'(by rw [txt_size]; exact hi) = UInt8.ofNat (P i) := by simp [txt, ByteArray.getElem_eq_getElem_data]
    rw [Nat.zero_add, (h i hi).1, e, UInt8.toNat_ofNat_of_lt' (hP i)]) cap
  rwa [txt_size] at this
/-- Blocks that stay as they are. -/
structure Kb (w : World) (L : List (Nat × Array Value × TypeId)) (W : World) : Prop where
  below : Below w.heap.size w W
  blk : ∀ p ∈ L, W.heap[p.1]? = some (.cells p.2.1 p.2.2 (0, 0))
section
variable {w W W' : World} {L : List (Nat × Array Value × TypeId)}
theorem Kb.call (h : Kb w L W) (hb : Below W.heap.size W W') : Kb w L W' :=
  ⟨h.below.trans (hb.mono h.below.size), fun p hp => (hb.block _ (lt_of (h.blk p hp))).trans (h.blk p hp)⟩
theorem Kb.box (h : Kb w L W) (cs : Array Value) (t : TypeId) : Kb w ((W.heap.size, cs, t) :: L) (W.alloc (.cells cs t)) := by
  have hc := h.call ((Below.refl _ _).alloc (Nat.le_refl _) (.cells cs t))
  refine ⟨hc.below, fun p hp => ?_⟩
  rcases List.mem_cons.1 hp with rfl | hp
  · exact heap_alloc_new _ _
  · exact hc.blk p hp
theorem Kb.start (w : World) : Kb w [] w := ⟨Below.refl _ _, by simp⟩
end
end Go.Proofs.YtekoaheiapddiaaGreat
end
section
namespace Go.Proofs.YtekoaheiapddiaaGreat
open Go.RowKit Go.Joins

theorem Tryz.infoInt : (Tryz.prog.info? 3).map (fun i => (i.zero, i.size, i.bytes)) = some (some (.int .i64 0), 1, 8) := by kernel_rfl

theorem wrap_near (q : Int) : ∃ t : Int, IntKind.i64.wrap q = q + 256 * t := by
  refine ⟨-(72057594037927936 * ((q + 9223372036854775808) / 18446744073709551616)), ?_⟩
  rw [IntKind.wrap_i64]
  omega

theorem ownsRow_from {w : World} {base base' : Nat} {e : TypeId} {size : Nat} {v : Value} {n : Nat} {xs : List Value} (h : w.ownsRow base e size v n xs) (hb : base' ≤ base) : w.ownsRow base' e size v n xs := by
  refine ⟨h.1, ?_⟩
  rcases h.2 with h0 | ⟨g, cap, cur, h1, h2, h3⟩
  · exact .inl h0
  · exact .inr ⟨g, cap, cur, h1, by omega, h3⟩

/-- Byte j, as Digits first has it; as it has it at the end. -/
def rawAt (d0 d1 d2 d3 j : Nat) : Int := (IntKind.i64.wrap (((nth d0 d1 d2 d3 (j / 8) / 2 ^ (8 * (j % 8)) : Nat)) : Int)).tmod 256
theorem raw_byte {x d0 d1 d2 d3 j : Nat} (h : Dig x d0 d1 d2 d3) (hj : j < 32) : (rawAt d0 d1 d2 d3 j + 256).tmod 256 = (byteOf x j : Int) ∧ -256 < rawAt d0 d1 d2 d3 j ∧ rawAt d0 d1 d2 d3 j < 256 := by
  have e := byteIn_eq h hj
  unfold byteIn at e
  rw [← e]
  unfold rawAt
  rw [show j % 8 * 8 = 8 * (j % 8) by omega]
  generalize nth d0 d1 d2 d3 (j / 8) / 2 ^ (8 * (j % 8)) = q
  obtain ⟨t, ht⟩ := wrap_near (q : Int)
  rw [ht]
  generalize hv : (q : Int) + 256 * t = v
  have hm : v % 256 = (q : Int) % 256 := by omega
  clear hv ht e
  rcases Int.le_total 0 v with h0 | h0
  · rw [Int.tmod_eq_emod_of_nonneg h0, Int.tmod_eq_emod_of_nonneg (by omega)]
    omega
  · have h1 : v.tmod 256 = -((-v) % 256) := by
      rw [← Int.tmod_eq_emod_of_nonneg (show 0 ≤ -v by omega), Int.neg_tmod, Int.neg_neg]
    rw [h1, Int.tmod_eq_emod_of_nonneg (by omega)]
    omega

def rawsTo (d0 d1 d2 d3 n : Nat) : List Value := (List.range n).map fun j => Value.int .i64 (rawAt d0 d1 d2 d3 j)
theorem rawsTo_succ (d0 d1 d2 d3 n : Nat) : rawsTo d0 d1 d2 d3 (n + 1) = rawsTo d0 d1 d2 d3 n ++ [.int .i64 (rawAt d0 d1 d2 d3 n)] := by
  simp [rawsTo, List.range_succ]
/-- Digits' third loop: the first n are bytes. -/
def mixTo (x d0 d1 d2 d3 n : Nat) : List Value := (List.range 32).map fun j => Value.int .i64 (if j < n then (byteOf x j : Int) else rawAt d0 d1 d2 d3 j)
theorem mixTo_zero (x d0 d1 d2 d3 : Nat) : mixTo x d0 d1 d2 d3 0 = rawsTo d0 d1 d2 d3 32 := by simp [mixTo, rawsTo]
theorem mixTo_at (x d0 d1 d2 d3 n j : Nat) (hj : j < 32) : (mixTo x d0 d1 d2 d3 n)[j]? = some (.int .i64 (if j < n then (byteOf x j : Int) else rawAt d0 d1 d2 d3 j)) := by
  simp [mixTo, hj]
theorem mixTo_set (x d0 d1 d2 d3 n : Nat) (hn : n < 32) : (mixTo x d0 d1 d2 d3 n).set n (.int .i64 (byteOf x n : Int)) = mixTo x d0 d1 d2 d3 (n + 1) := by
  apply List.ext_getElem?
  intro j
  rw [List.getElem?_set]
  by_cases hj : j < 32
  · rw [mixTo_at _ _ _ _ _ _ _ hj, mixTo_at _ _ _ _ _ _ _ hj]
    by_cases e : n = j
    · subst e
      rw [if_pos rfl, if_pos (by simp [mixTo]; omega), if_pos (by omega)]
    · rw [if_neg e]
      by_cases h : j < n
      · rw [if_pos h, if_pos (by omega)]
      · rw [if_neg h, if_neg (by omega)]
  · have h1 : (mixTo x d0 d1 d2 d3 n)[j]? = none := by simp [mixTo]; omega
    have h2 : (mixTo x d0 d1 d2 d3 (n + 1))[j]? = none := by simp [mixTo]; omega
    rw [h1, h2, if_neg (by omega)]

/-- A number's bytes as ints, the lowest first. -/
def digs (x n : Nat) : List Value := (List.range n).map fun j => Value.int .i64 (byteOf x j : Int)
theorem mixTo_all (x d0 d1 d2 d3 : Nat) : mixTo x d0 d1 d2 d3 32 = digs x 32 := by
  unfold mixTo digs
  apply List.map_congr_left
  intro j hj
  rw [if_pos (by simpa using hj)]

def RetRow (n : Nat) (xs : List Value) (w : World) (e : Ending) (w' : World) : Prop :=
  ∃ v : Value, e = .returned v ∧ w'.ownsRow w.heap.size 3 1 v n xs ∧ Below w.heap.size w w'

/-- What Digits knows: the word's limbs in block B + 1, its row from block B + 2 on. -/
def DigsS (w : World) (d0 d1 d2 d3 : Nat) (n : Nat) (v : Value) (xs : List Value) (W : World) : Prop :=
  Below w.heap.size w W ∧ w.heap.size + 1 + 1 ≤ W.heap.size ∧ W.heap[w.heap.size + 1]? = some (.cells (four d0 d1 d2 d3) 41 (0, 0)) ∧ W.ownsRow (w.heap.size + 1 + 1) 3 1 v n xs

theorem digs_grown {w wr w1 : World} {d0 d1 d2 d3 n : Nat} {v v' : Value} {xs news : List Value} {o : Obj} (hB : Below w.heap.size w wr) (hle : w.heap.size + 1 + 1 ≤ wr.heap.size)
    (hl : wr.heap[w.heap.size + 1]? = some (.cells (four d0 d1 d2 d3) 41 (0, 0))) (hown : wr.ownsRow (w.heap.size + 1 + 1) 3 1 v n xs)
    (hg : (wr.alloc o).grownBy w1 v.ownBlock) {m : Nat} (hown' : w1.ownsRow (w.heap.size + 1 + 1) 3 1 v' m news) : DigsS w d0 d1 d2 d3 m v' news w1 := by
  have hne : some (w.heap.size + 1) ≠ v.ownBlock := fun h => by have := (hown.lt _ h.symm).1; omega
  have hs := hg.size
  rw [alloc_size] at hs
  refine ⟨(hB.alloc (by omega) o).grown hg (by rw [alloc_size]; omega) (fun j hj => by have := (hown.lt j hj).1; omega), by omega, ?_, hown'⟩
  rw [hg.block _ (by rw [alloc_size]; omega) hne]
  exact (Below.heap_alloc _ _ _ (by omega)).trans hl

set_option maxRecDepth 100000 in
set_option maxHeartbeats 4000000 in
theorem Digits_c {x d3 d2 d1 d0 : Nat} (hx : Dig x d0 d1 d2 d3) (w : World) :
    Calls Tryz.prog 160 #[.agg #[.int .u64 d3, .int .u64 d2, .int .u64 d1, .int .u64 d0]] w (RetRow 32 (digs x 32) w) := by
  have HX := Lib.hid hx; clear hx
  obtain ⟨i0, hi, hz0, hz1, hz2⟩ := info_parts Tryz.infoInt
  go_enter Tryz.func160, Tryz.ntmps160
  go_wp2_with fail
  have H0 := Lib.hid (show DigsS w d0 d1 d2 d3 0 (.slice none 0 0) (rawsTo d0 d1 d2 d3 0) _ from ⟨((Below.refl w.heap.size w).alloc (Nat.le_refl _) (.cells #[.int .u64 d3, .int .u64 d2, .int .u64 d1, .int .u64 d0] 61)).alloc (by simp) (.cells (four d0 d1 d2 d3) 41), by simp, heap_alloc2_new _ _ _, World.ownsRow_nil _ _ _ _⟩)
  go_loopw [3, 5] (fun v i wr => ∃ k : Nat, i = .int .i64 k ∧ k ≤ 4 ∧ DigsS w d0 d1 d2 d3 (8 * k) v (rawsTo d0 d1 d2 d3 (8 * k)) wr) (fun _ i _ => 4 - (intOf i).toNat)
  case atStart => exact ⟨0, rfl, by omega, H0.out⟩
  case round =>
    clear H0
    obtain ⟨i, rfl, hi4, hS⟩ := hrel
    by_cases hlt : i < 4
    · have hS0 := Lib.hid hS; clear hS
      obtain ⟨wo, rfl⟩ : ∃ wo : World, wo = wr := ⟨_, rfl⟩
      have hd1 : decide ((i : Int) < 4) = true := by simp; omega
      have hd2 : decide (i < 4) = true := by simp; omega
      go_wp2_with fail
      go_loopw [3, 6] (fun v k wr => ∃ j : Nat, k = .int .i64 j ∧ j ≤ 8 ∧ DigsS w d0 d1 d2 d3 (8 * i + j) v (rawsTo d0 d1 d2 d3 (8 * i + j)) wr) (fun _ k _ => 8 - (intOf k).toNat)
      case atStart => exact ⟨0, rfl, by omega, hS0.out⟩
      case round =>
        clear hS0
        obtain ⟨j, rfl, hj8, hB, hle, hl, hown⟩ := hrel
        by_cases hjl : j < 8
        · have hc := (cell_of hl i).trans (four_at _ _ _ _ i hlt)
          have hr : rawAt d0 d1 d2 d3 (8 * i + j) = (IntKind.i64.wrap (((nth d0 d1 d2 d3 i / 2 ^ (8 * j) : Nat)) : Int)).tmod 256 := by
            unfold rawAt; rw [show (8 * i + j) / 8 = i by omega, show (8 * i + j) % 8 = j by omega]
          have HR := Lib.hid (rawsTo_succ d0 d1 d2 d3 (8 * i + j))
          rw [hr] at HR
          have hrw : (wrap64 ((nth d0 d1 d2 d3 i : Int) / 2 ^ (8 * j))).tmod 256 = (IntKind.i64.wrap (((nth d0 d1 d2 d3 i / 2 ^ (8 * j) : Nat)) : Int)).tmod 256 := by simp [wrap64, IntKind.wrap_i64]
          clear hr
          generalize (IntKind.i64.wrap (((nth d0 d1 d2 d3 i / 2 ^ (8 * j) : Nat)) : Int)).tmod 256 = r at *
          generalize nth d0 d1 d2 d3 i = y at *
          have HB := Lib.hid hB; have HL := Lib.hid hl; have HO := Lib.hid hown
          clear hB hl hown
          go_wp2_with (at_builtin; refine wpList_append_own _ rfl _ _ 261 rfl (w.heap.size + 1 + 1) 3 i0 (.int .i64 0) 1 8 Tryz.underlying261 hi hz0 hz1 hz2 rfl (by decide) _ _ _ rfl (HO.out.alloc _) ⟨wr.heap.size, 0, none⟩ 1 1 [.int .i64 r] rfl rfl ?c1 ?c2 ?c3 ?c4 ?c5 ?_)
          case c1 =>
            intro j u hj
            match j, hj with
            | 0, hj => simp at hj; subst hj; simp [Addr.add]
          case c2 => intro u hu; simp at hu; subst hu; rfl
          case c3 => unfold maxLen; omega
          case c4 => omega
          case c5 => simp; omega
          intro v' w1 hown' hgrow _
          have HE := Lib.hid (digs_grown HB.out hle HL.out HO.out hgrow hown')
          rw [show rawsTo d0 d1 d2 d3 (8 * i + j) ++ [.int .i64 r] = rawsTo d0 d1 d2 d3 (8 * i + j + 1) from HR.out.symm] at HE
          clear hown' hgrow HB HL HO hc hrw
          go_wp2_with fail
          go_roundw
          case rel => exact ⟨j + 1, by go_num, by omega, HE.out⟩
          case measure => simp [intOf]; omega
        · obtain rfl : j = 8 := by omega
          have HS := Lib.hid (show DigsS w d0 d1 d2 d3 (8 * (i + 1)) _ (rawsTo d0 d1 d2 d3 (8 * (i + 1))) wr from ⟨hB, hle, hl, by rw [show 8 * (i + 1) = 8 * i + 8 by omega]; exact hown⟩)
          clear hB hl hown
          go_wp2_with fail
          go_roundw
          case rel => exact ⟨i + 1, by go_num, by omega, HS.out⟩
          case measure => simp [intOf]; omega
    · obtain rfl : i = 4 := by omega
      obtain ⟨hB, hle, hl, hown⟩ := hS
      rw [← mixTo_zero x] at hown
      obtain ⟨g, cap, rfl⟩ := ownsRow_form hown (by omega)
      have HS := Lib.hid (And.intro hB (And.intro hle hown))
      clear hB hl hown
      go_wp2_with fail
      go_loopw [7] (fun i wr => ∃ k : Nat, i = .int .i64 k ∧ k ≤ 32 ∧ Below w.heap.size w wr ∧ w.heap.size + 1 + 1 ≤ wr.heap.size ∧ wr.ownsRow (w.heap.size + 1 + 1) 3 1 (.slice (some ⟨g, 0, none⟩) 32 cap) 32 (mixTo x d0 d1 d2 d3 k)) (fun i _ => 32 - (intOf i).toNat)
      case atStart => exact ⟨0, rfl, by omega, HS.out.1, HS.out.2.1, HS.out.2.2⟩
      case round =>
        clear HS
        obtain ⟨k, rfl, hk, hB, hle, hown⟩ := hrel
        by_cases hlt : k < 32
        · have hc := (hown.cellAt k (by omega)).trans (mixTo_at _ _ _ _ _ _ _ hlt)
          rw [if_neg (by omega)] at hc
          have hf := hown.frozenAt k
          obtain ⟨hb, hr1, hr2⟩ := raw_byte HX.out hlt
          have hbl : byteOf x k < 256 := Nat.mod_lt _ (by decide)
          have hst := hown.stored k (.int .i64 (byteOf x k : Int))
          rw [mixTo_set _ _ _ _ _ _ hlt] at hst
          have hlt2 := (hown.lt g rfl)
          have HE := Lib.hid (And.intro (show Below w.heap.size w (wr.setCell ⟨g, k, none⟩ (.int .i64 (byteOf x k : Int))) from hB.setCell (by show w.heap.size ≤ g; omega) _) (And.intro (show w.heap.size + 1 + 1 ≤ (wr.setCell ⟨g, k, none⟩ (.int .i64 (byteOf x k : Int))).heap.size by simpa using hle) hst.1))
          clear hst hB hown
          generalize rawAt d0 d1 d2 d3 k = r at *
          generalize byteOf x k = b at *
          have hw : IntKind.i64.wrap (r + 256) = r + 256 := IntWalk.i64_in _ (by omega)
          go_wp2_with fail
          go_roundw
          case rel => exact ⟨k + 1, by go_num, by omega, HE.out.1, HE.out.2.1, HE.out.2.2⟩
          case measure => simp [intOf]; omega
        · obtain rfl : k = 32 := by omega
          rw [mixTo_all] at hown
          have HO := Lib.hid hown; have HB := Lib.hid hB
          clear hown hB
          go_wp2_with fail
          go_ret
          exact ⟨_, rfl, ownsRow_from HO.out (by omega), HB.out⟩

end Go.Proofs.YtekoaheiapddiaaGreat
end
section
namespace Go.Proofs.YtekoaheiapddiaaGreat
open Go.RowKit
attribute [local go_sem ↓] Go.wp_at_zero Go.wp_at_succ

end Go.Proofs.YtekoaheiapddiaaGreat
end
section
namespace Go.Proofs.YtekoaheiapddiaaGreat
open Go.RowKit Go.Joins

/-- A slice that holds the n bytes b, as ints. -/
def BytesRow (w : World) (v : Value) (n : Nat) (b : Nat → Nat) : Prop :=
  ∃ g cap, v = .slice (some ⟨g, 0, none⟩) n cap ∧ g < w.heap.size ∧ ∀ j, j < n → w.cell? ⟨g, j, none⟩ = some (.int .i64 (b j : Nat))
theorem BytesRow.of_owns {w : World} {base : Nat} {v : Value} {n : Nat} {b : Nat → Nat} (h : w.ownsRow base 3 1 v n ((List.range n).map fun j => Value.int .i64 (b j : Nat))) (hn : 0 < n) : BytesRow w v n b := by
  obtain ⟨g, cap, rfl⟩ := ownsRow_form h hn
  refine ⟨g, cap, rfl, (h.lt g rfl).2, fun j hj => ?_⟩
  rw [h.cellAt j (by omega)]
  simp [hj]
def RetBytes (n : Nat) (b : Nat → Nat) (w : World) (e : Ending) (w' : World) : Prop :=
  ∃ v : Value, e = .returned v ∧ BytesRow w' v n b ∧ Below w.heap.size w w'

theorem Digits_b {x d3 d2 d1 d0 : Nat} (hx : Dig x d0 d1 d2 d3) (w : World) :
    Calls Tryz.prog 160 #[.agg #[.int .u64 d3, .int .u64 d2, .int .u64 d1, .int .u64 d0]] w (RetBytes 32 (byteOf x) w) := by
  refine (Digits_c hx w).mono ?_
  rintro e w' ⟨v, rfl, ho, hb⟩
  exact ⟨v, rfl, BytesRow.of_owns ho (by decide), hb⟩
end Go.Proofs.YtekoaheiapddiaaGreat
end
