/- The contract of word.divideOnce. -/
import Derived.Test.YthbfhfgmanafpaaDivA
import Derived.Test.YthbfhfgmanafpaaAmong
import Derived.RegionTactic
namespace Go.Proofs.Ythbfhfgmanafpaa
open Go.RowKit

/-- What a call hands back whose results are a slot and a variable of several cells. -/
theorem results_slot_cell {P : Program} {fn : Func} {p q : Tmp} {ty : TypeId} (h : fn.results = #[.tmp q, .cell p ty]) (tmps : Array Value) (w : World) (g : Nat) (t : TypeId) (cs : Array Value) (fr : Nat × Nat) (d : TypeDesc) (v : Value)
    (hp : tmps.getD p undef = .pointer (some ⟨g, 0, none⟩)) (hq : tmps.getD q undef = v) (hg : w.heap[g]? = some (.cells cs t fr))
    (hu : P.underlying ty = some d) (hd : (match d with | .struct _ | .array _ _ => true | _ => false) = true) (hi : (P.info? ty).map (·.size) = some cs.size) :
    (results fn tmps).run P w = .ok (.tuple #[v, .agg cs]) w := by
  have hp' : tmps[p]?.getD undef = .pointer (some ⟨g, 0, none⟩) := by simpa using hp
  have hq' : tmps[q]?.getD undef = v := by simpa using hq
  simp [results, h, hp', hq', asAddr, run_loadVar_row w g t ty cs fr d hg hu hd hi]
theorem dig_nil : Dig 0 0 0 0 0 := ⟨by decide, by decide, by decide, by decide, rfl⟩

/-- A call that hands back a number and limbs. -/
def RetNL (q s : Nat) (w : World) (e : Ending) (w' : World) : Prop :=
  ∃ s0 s1 s2 s3 : Nat, e = .returned (.tuple #[.int .u64 q, .agg #[.int .u64 s0, .int .u64 s1, .int .u64 s2, .int .u64 s3]]) ∧ Dig s s0 s1 s2 s3 ∧ Below w.heap.size w w'

/-- What divideOnce's loop knows: its divisor stands in block bd, what is left in block bl. -/
def OnceS (w : World) (B bd bl d0 d1 d2 d3 l0 l1 l2 l3 : Nat) (W : World) : Prop :=
  Fr w w.heap.size B [(bd, #[.int .u64 d0, .int .u64 d1, .int .u64 d2, .int .u64 d3], 45), (w.heap.size + 1 + 1, #[.int .u64 0, .int .u64 0, .int .u64 0, .int .u64 0], 45)] W ∧ B ≤ bl ∧
    W.heap[bl]? = some (.cells #[.int .u64 l0, .int .u64 l1, .int .u64 l2, .int .u64 l3] 45 (0, 0))
theorem OnceS.cells {w W : World} {B bd bl d0 d1 d2 d3 l0 l1 l2 l3 : Nat} (h : OnceS w B bd bl d0 d1 d2 d3 l0 l1 l2 l3 W) :
    (W.cell? ⟨bd, 0, none⟩ = some (.int .u64 d0) ∧ W.cell? ⟨bd, 1, none⟩ = some (.int .u64 d1) ∧ W.cell? ⟨bd, 2, none⟩ = some (.int .u64 d2) ∧ W.cell? ⟨bd, 3, none⟩ = some (.int .u64 d3)) ∧
    ((W.cell? ⟨bl, 0, none⟩ = some (.int .u64 l0) ∧ W.cell? ⟨bl, 1, none⟩ = some (.int .u64 l1) ∧ W.cell? ⟨bl, 2, none⟩ = some (.int .u64 l2) ∧ W.cell? ⟨bl, 3, none⟩ = some (.int .u64 l3)) ∧
      (W.frozen? ⟨bl, 0, none⟩ = false ∧ W.frozen? ⟨bl, 1, none⟩ = false ∧ W.frozen? ⟨bl, 2, none⟩ = false ∧ W.frozen? ⟨bl, 3, none⟩ = false)) :=
  ⟨h.1.row (.head _), cells4 h.2.2⟩
theorem OnceS.call {w W w1 : World} {B bd bl d0 d1 d2 d3 l0 l1 l2 l3 : Nat} (h : OnceS w B bd bl d0 d1 d2 d3 l0 l1 l2 l3 W) (hb : Below W.heap.size W w1) : OnceS w B bd bl d0 d1 d2 d3 l0 l1 l2 l3 w1 :=
  ⟨h.1.call hb, h.2.1, (hb.block _ (lt_of h.2.2)).trans h.2.2⟩
theorem OnceS.set {w W : World} {B bd bl d0 d1 d2 d3 l0 l1 l2 l3 : Nat} (h : OnceS w B bd bl d0 d1 d2 d3 l0 l1 l2 l3 W) (r0 r1 r2 r3 : Nat) :
    OnceS w B bd bl d0 d1 d2 d3 r0 r1 r2 r3 ((((W.setCell ⟨bl, 0, none⟩ (.int .u64 r0)).setCell ⟨bl, 1, none⟩ (.int .u64 r1)).setCell ⟨bl, 2, none⟩ (.int .u64 r2)).setCell ⟨bl, 3, none⟩ (.int .u64 r3)) :=
  ⟨h.1.set4 h.2.1 _ _ _ _, h.2.1, heap_set4 h.2.2 _ _ _ _⟩

theorem above_wrap {r3 o b : Nat} (h3 : r3 < M64) (ho : o < M64) (hb : b ≤ 1) :
    IntKind.u64.wrap (IntKind.u64.wrap ((r3 : Int) - (o : Int)) - (b : Int)) = (((r3 + M64 + M64 - o - b) % M64 : Nat) : Int) := by
  rw [IntKind.wrap_u64, IntKind.wrap_u64]
  unfold M64 at *
  omega
theorem next_wrap (a c : Nat) : IntKind.u64.wrap ((a : Int) + (c : Int)) = (((a + c) % M64 : Nat) : Int) := by
  rw [IntKind.wrap_u64]
  unfold M64 at *
  omega
theorem above_lt (x : Nat) : aboveOf x < M64 := Nat.mod_lt _ (by decide)

set_option maxRecDepth 100000 in
set_option maxHeartbeats 2000000 in
theorem divideOnce_c {r n d r0 r1 r2 r3 d0 d1 d2 d3 : Nat} (hr : Dig r r0 r1 r2 r3) (hd : Dig d d0 d1 d2 d3) (hlt : r < d) (hn : n < M64) (hd3 : M64 / 2 ≤ d3) (w : World) :
    Calls Try.prog 83 #[.agg #[.int .u64 r0, .int .u64 r1, .int .u64 r2, .int .u64 r3], .int .u64 n, .agg #[.int .u64 d0, .int .u64 d1, .int .u64 d2, .int .u64 d3]] w
      (RetNL ((r * M64 + n) / d) ((r * M64 + n) % d) w) := by
  have H := (((Fx.start w).new #[.int .u64 r0, .int .u64 r1, .int .u64 r2, .int .u64 r3] 45).new #[.int .u64 d0, .int .u64 d1, .int .u64 d2, .int .u64 d3] 45).new #[.int .u64 0, .int .u64 0, .int .u64 0, .int .u64 0] 45
  have hnr := guess_near hr hd hlt hn hd3
  have hdp : 0 < d := by omega
  have hdm := Nat.div_add_mod (r * M64 + n) d
  have hml := Nat.mod_lt (r * M64 + n) hdp
  have G := Lib.hid (guess_c r3 r2 d3 hr.h2 hd.h3)
  generalize guessOf r3 r2 d3 = g at *
  generalize (r * M64 + n) / d = q at *
  generalize (r * M64 + n) % d = s at *
  obtain ⟨hg, hqg, hgq⟩ := hnr
  obtain ⟨t, rfl⟩ : ∃ t, g = q + t := ⟨g - q, by omega⟩
  have HR := Lib.hid hr; have HD := Lib.hid hd
  have HG := Lib.hid hg
  have HM := Lib.hid hdm; have HS := Lib.hid hml
  have ht : t ≤ 2 := by omega
  clear hr hd hlt hdm hml hqg hgq hdp
  have HT := Lib.hid ht; clear ht
  have HN := Lib.hid hn; clear hn
  have P := Lib.hid (fun W => plusRow_c (s := 0) (l := 0) dig_nil HD.out HG.out (by decide) W)
  simp only [Nat.pow_zero, Nat.mul_one, Nat.zero_add] at P
  have Mi := Lib.hid (fun (p p0 p1 p2 p3 : Nat) (hp : Dig p p0 p1 p2 p3) W => minus_c (x := n + M64 * (r0 + M64 * (r1 + M64 * r2))) ⟨HN.out, HR.out.h0, HR.out.h1, HR.out.h2, rfl⟩ hp W)
  clear hg hd3
  go_enter Try.func83, Try.ntmps83
  go_wp2_with fail
  refine (G.out _).mono ?_
  rintro e w1 ⟨rfl, hb1⟩
  have H1 := H.1.call hb1
  have z1 := H1.size
  clear hb1 H G
  have cD := H1.row (.tail _ (.head _))
  have cR := H1.row (.tail _ (.tail _ (.head _)))
  replace H1 := Lib.hid H1
  go_wp2_with fail
  refine (P.out _).mono ?_
  rintro e w2 ⟨p, p0, p1, p2, p3, o, rfl, hp, ⟨ho, u, hu, hu0⟩, hb2⟩
  obtain rfl := hu0 trivial
  have H2 := ((H1.out.call hb2).up).new #[.int .u64 p0, .int .u64 p1, .int .u64 p2, .int .u64 p3] 45
  have z2 := (H1.out.call hb2).size
  have kD := (H1.out.call hb2).row (.tail _ (.head _))
  have kR := (H1.out.call hb2).row (.tail _ (.tail _ (.head _)))
  have nR := (H1.out.call hb2).lt (.tail _ (.tail _ (.head _)))
  clear hb2 cD cR P hu0 z1 H1
  replace H2 := Lib.hid H2
  have HP := Lib.hid hp; have HU := Lib.hid hu; have HO := Lib.hid ho
  clear hp hu ho
  go_wp2_with fail
  refine (Mi.out _ _ _ _ _ HP.out _).mono ?_
  rintro e w3 ⟨l, l0, l1, l2, l3, b, rfl, hl, ⟨hb, hq⟩, hb3⟩
  have z3 := (H2.out.call hb3).size
  have kR := (H2.out.call hb3).row (.tail _ (.tail _ (.tail _ (.head _))))
  have nR := (H2.out.call hb3).lt (.tail _ (.tail _ (.tail _ (.head _))))
  have kD := (H2.out.call hb3).row (.tail _ (.tail _ (.head _)))
  have H3 : OnceS w w3.heap.size (w.heap.size + 1) w3.heap.size d0 d1 d2 d3 l0 l1 l2 l3 (w3.alloc (.cells #[.int .u64 l0, .int .u64 l1, .int .u64 l2, .int .u64 l3] 45)) := by
    have F := (H2.out.call hb3).up
    refine ⟨⟨(F.alloc _).below, F.le, (F.alloc _).size, fun x hx => (F.alloc _).know x ?_⟩, Nat.le_refl _, heap_alloc_new _ _⟩
    simp only [List.mem_cons, List.not_mem_nil, or_false] at hx ⊢
    rcases hx with rfl | rfl
    · right; right; left; rfl
    · right; left; rfl
  have hA := above_start HR.out HT.out HD.out.lt HM.out HS.out HU.out hl.lt hq
  have hab := above_wrap HR.out.h3 HO.out hb
  rw [hA.2] at hab
  have HL := Lib.hid hl; have HLe := Lib.hid hA.1
  clear hb3 hA hq hl hb Mi H2
  replace H3 := Lib.hid H3
  generalize ha : aboveOf (leftOf s d t) = a at *
  have HAb := Lib.hid ha; clear ha
  go_wp2_with fail
  have hgl : (q : Int) + (t : Int) ≤ 18446744073709551615 := by have := HG.out; unfold M64 at this; omega
  go_loopw [8, 13] (fun g a wr => ∃ t l0 l1 l2 l3 : Nat, g = .int .u64 ((q + t : Nat) : Int) ∧ a = .int .u64 (aboveOf (leftOf s d t) : Nat) ∧ t ≤ 2 ∧ q + t < M64 ∧ Dig (leftOf s d t % W256) l0 l1 l2 l3 ∧
      OnceS w w3.heap.size (w.heap.size + 1) w3.heap.size d0 d1 d2 d3 l0 l1 l2 l3 wr) (fun g _ _ => (intOf g).toNat)
  case atStart => exact ⟨t, l0, l1, l2, l3, by simp, by rw [HAb.out], HT.out, HG.out, HLe.out ▸ HL.out, H3.out⟩
  case round =>
    clear HL HLe HAb HT hgl HG hab kR kD z2 nR
    obtain ⟨t, l0, l1, l2, l3, rfl, rfl, ht, hg, hl, hO⟩ := hrel
    obtain ⟨kD, kL, fL⟩ := hO.cells
    have z4 := hO.1.size
    have nL := lt_of hO.2.2
    have nD := hO.1.lt (.head _)
    have HO := Lib.hid hO
    have HL := Lib.hid hl
    clear hO hl
    have HG := Lib.hid hg
    have hgl : ((q + t : Nat) : Int) ≤ 18446744073709551615 := by unfold M64 at hg; omega
    clear hg
    rcases Nat.eq_zero_or_pos t with rfl | htp
    · have h0 : aboveOf (leftOf s d 0) = 0 := (above_zero HS.out HD.out.lt (by omega)).2 rfl
      have e0 : leftOf s d 0 % W256 = s := by
        have := HS.out; have := HD.out.lt
        unfold leftOf
        rw [Nat.zero_mul, Nat.sub_zero, Nat.add_mul_mod_self_right, Nat.mod_eq_of_lt (by omega)]
      rw [h0]
      rw [e0] at HL
      clear h0 e0 ht
      go_wp2_with fail
      clear hgl
      have k2 := (HO.out.1.know (w.heap.size + 1 + 1, _, _) (.tail _ (.head _))).2
      have c2 := cells4 k2
      have K2 := Lib.hid k2; clear k2
      have n2 := HO.out.1.lt (.tail _ (.head _))
      go_region
      all_goals
        clear c2 kD kL fL
        go_wp2_with fail
        refine bodyPost_ret (v := .tuple #[.int .u64 q, .agg #[.int .u64 l0, .int .u64 l1, .int .u64 l2, .int .u64 l3]])
          (results_slot_cell Try.results83 _ _ _ _ _ _ _ _ rfl rfl (heap_set4 K2.out _ _ _ _) Try.underlying45 rfl (by kernel_rfl)) rfl ?_
        exact ⟨_, _, _, _, rfl, HL.out, (below_set4 HO.out.1.below (by omega) _ _ _ _).drew⟩
    · obtain ⟨t, rfl⟩ : ∃ k, t = k + 1 := ⟨t - 1, by omega⟩
      have hz : aboveOf (leftOf s d (t + 1)) ≠ 0 := fun h => by have := (above_zero HS.out HD.out.lt ht).1 h; omega
      have C := Lib.hid (fun W => plus_c HL.out HD.out W)
      have Hst := Lib.hid (fun (l' c : Nat) => above_step (l := leftOf s d (t + 1) % W256) (l' := l') (c := c) HS.out HD.out.lt ht rfl)
      have hab := above_lt (leftOf s d (t + 1))
      have hw := next_wrap (aboveOf (leftOf s d (t + 1)))
      have HW := Lib.hid hw
      clear hw HL
      generalize aboveOf (leftOf s d (t + 1)) = a at *
      have hab1 : (a : Int) ≤ 18446744073709551615 := by unfold M64 at hab; omega
      clear hab
      have hai : ((a : Int) == 0) = false := by simp; omega
      obtain ⟨g, hg⟩ : ∃ g, g = q + (t + 1) := ⟨_, rfl⟩
      rw [← hg] at hgl ⊢
      have Hg := Lib.hid hg
      have hg1 : 1 ≤ (g : Int) := by omega
      have Ht := Lib.hid ht
      clear hg ht htp hz
      go_wp2_with fail
      refine (C.out _).mono ?_
      rintro e w4 ⟨m, m0, m1, m2, m3, c, rfl, hm, ⟨hc, hq⟩, hb4⟩
      obtain ⟨hs1, hs2⟩ := Hst.out m c hm.lt hq
      have hO4 := HO.out.call hb4
      obtain ⟨kD, kL, fL⟩ := hO4.cells
      have HO4 := Lib.hid (hO4.set m0 m1 m2 m3)
      have hw := HW.out c
      rw [hs2] at hw
      have HM2 := Lib.hid hm; have HS1 := Lib.hid hs1
      clear hb4 hO4 hq hm hs1 hs2 hc HW C Hst HO
      go_wp2_with fail
      go_roundw
      case rel =>
        refine ⟨t, m0, m1, m2, m3, by congr 1; have := Hg.out; omega, rfl, by have := Ht.out; omega, by have := HG.out; omega, HS1.out ▸ HM2.out, HO4.out⟩
      case measure => simp [intOf]; omega

end Go.Proofs.Ythbfhfgmanafpaa
