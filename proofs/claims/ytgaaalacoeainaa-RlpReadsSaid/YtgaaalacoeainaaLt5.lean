/- Parts, and the item that they make: a list. -/
import Derived.Test.YtgaaalacoeainaaLt4
namespace Go.Proofs.Ytgaaalacoeainaa
open Go.RowKit

theorem madeL_end {p : List (Nat × List UInt8) → It × Nat} {C j m : Nat} {t : List (Nat × List UInt8)} {f : Fo} (h : madeL p C t = (f.app (madeL p (C - j) (t.drop m)).1, m + (madeL p (C - j) (t.drop m)).2)) (he : C ≤ j ∨ t.length ≤ m) : madeL p C t = (f, m) := by
  have e : madeL p (C - j) (t.drop m) = (.nil, 0) := by
    rcases he with he | he
    · rw [show C - j = 0 by omega]; rfl
    · rw [List.drop_eq_nil_iff.2 he]
      cases C - j <;> rfl
  rw [h, e]
  simp [Fo.app_nil]
theorem fo_app (x : It) (r : Fo) : x.fo r = (x.fo .nil).app r := by cases x <;> rfl
theorem madeL_step {p : List (Nat × List UInt8) → It × Nat} {C j m : Nat} {t : List (Nat × List UInt8)} {f : Fo} (h : madeL p C t = (f.app (madeL p (C - j) (t.drop m)).1, m + (madeL p (C - j) (t.drop m)).2)) (h1 : j < C) (h2 : m < t.length) :
    madeL p C t = ((f.app ((p (t.drop m)).1.fo .nil)).app (madeL p (C - (j + 1)) (t.drop (m + (p (t.drop m)).2))).1, m + (p (t.drop m)).2 + (madeL p (C - (j + 1)) (t.drop (m + (p (t.drop m)).2))).2) := by
  obtain ⟨b, r, hr⟩ : ∃ b r, t.drop m = b :: r := by
    cases hd : t.drop m with
    | nil => rw [List.drop_eq_nil_iff] at hd; omega
    | cons b r => exact ⟨b, r, rfl⟩
  have e : madeL p (C - j) (t.drop m) = ((p (t.drop m)).1.fo (madeL p (C - (j + 1)) ((t.drop m).drop (p (t.drop m)).2)).1, (p (t.drop m)).2 + (madeL p (C - (j + 1)) ((t.drop m).drop (p (t.drop m)).2)).2) := by
    rw [show C - j = C - (j + 1) + 1 by omega, hr]
    rfl
  rw [h, e, List.drop_drop]
  simp only [Prod.mk.injEq]
  exact ⟨by rw [fo_app, Fo.app_assoc], by omega⟩

/-- What is known at the head of each round. -/
structure MadeS (p : List (Nat × List UInt8) → It × Nat) (C : Nat) (t : List (Nat × List UInt8)) (w : World) (j m : Nat) (W : World) : Prop where
  below : Below w.heap.size w W
  res : W.heap[w.heap.size]? = some (.cells #[.bool false, .string ⟨#[]⟩, .slice none 0 0] 27 (0, 0))
  it : ∃ (f : Fo) (v : Value), W.heap[w.heap.size + 1]? = some (.cells #[.bool true, .string ⟨#[]⟩, v] 27 (0, 0)) ∧ Own (w.heap.size + 2) f v W ∧ f.len ≤ j ∧
    madeL p C t = (f.app (madeL p (C - j) (t.drop m)).1, m + (madeL p (C - j) (t.drop m)).2)
/-- What made's contract is at a depth. -/
def MadeC (d : Nat) : Prop := ∀ (g o c : Nat) (l : List (Nat × List UInt8)) (w : World), l.length ≤ 60 → l.length ≤ c → g < w.heap.size → PAt w g o l →
  Calls Try.prog 11 #[.slice (some ⟨g, o, none⟩) l.length c, .int .i64 ((61 - d : Nat) : Int)] w (MadeR (madeP d l) w)
theorem run_slice_parts (g o n c u : Nat) (hu : u < n) (hn : n ≤ c) (W : World) :
    (Instr.slice 22 (.slice (some ⟨g, o, none⟩) n c) (some (.int .i64 (u : Int))) none none).run Try.prog W = .ok (.slice (some ⟨g, o + 2 * u, none⟩) (n - u) (c - u)) W := by
  have ht : Try.prog.underlying 22 = some (.slice (Try.prog.elem 22)) := by kernel_rfl
  have hs : ∀ w, (Go.sizeOf (Try.prog.elem 22)).run Try.prog w = .ok 2 w := fun w => by kernel_rfl
  rw [run_slice_l W _ _ _ _ ht .i64 _ (by omega) (by omega), hs]
  have h1 : ¬ c = u := by omega
  have h2 : o + u * 2 = o + 2 * u := by omega
  simp [Result.andThen, sliced, Addr.add, h1, h2]
  omega
set_option maxRecDepth 100000 in
set_option maxHeartbeats 4000000 in
theorem made_list {d : Nat} (hd : d + 1 ≤ 61) (IH : MadeC d) (k : Nat) (s : List UInt8) (t : List (Nat × List UInt8)) (g o c : Nat) (w : World) (hl : ((k, s) :: t).length ≤ 60) (hc : ((k, s) :: t).length ≤ c) (hg : g < w.heap.size) (hk : ¬ k % 2 = 0)
    (hp : PAt w g o ((k, s) :: t)) :
    Calls Try.prog 11 #[.slice (some ⟨g, o, none⟩) ((k, s) :: t).length c, .int .i64 ((61 - (d + 1) : Nat) : Int)] w (MadeR (madeP (d + 1) ((k, s) :: t)) w) := by
  obtain ⟨n, hn⟩ : ∃ n, n = ((k, s) :: t).length := ⟨_, rfl⟩
  have ht : t.length = n - 1 := by rw [hn]; simp
  have hn0 : 0 < n := by rw [hn]; simp
  have h0 := hp.1
  have e : madeP (d + 1) ((k, s) :: t) = (.list (madeL (madeP d) (k / 2 % 5) t).1, 1 + (madeL (madeP d) (k / 2 % 5) t).2) := by simp [madeP, hk]
  obtain ⟨C, hC⟩ : ∃ C, C = k / 2 % 5 := ⟨_, rfl⟩
  rw [e, ← hn, ← hC]
  rw [← hn] at hl hc
  have hC5 : C ≤ 4 := by omega
  have hb := Below.heap_alloc w (.cells #[.bool false, .string ⟨#[]⟩, .slice none 0 0] 27) g hg
  have d0 := (World.cell?_of_block (a := ⟨g, o, none⟩) hb).trans h0.2.2.1
  obtain ⟨z, hz⟩ : ∃ z : Nat, z = 61 - (d + 1) := ⟨_, rfl⟩
  have hz1 : ¬ (60 : Int) < (z : Int) := by omega
  have hz2 : ((z : Int) + 1) = ((61 - d : Nat) : Int) := by omega
  rw [← hz]
  have hni : (0 : Int) ≤ 0 ∧ (0 : Int) < (n : Int) := by omega
  have hnn : ((n : Int) == 0) = false := beq_eq_false_iff_ne.2 (by omega)
  have hk2 : ((k : Int) % 2 == 0) = false := beq_eq_false_iff_ne.2 (by omega)
  have hC2 : (k : Int) / 2 % 256 % 5 = (C : Int) := by have := h0.1; omega
  have HP := Lib.hid (And.intro hp (And.intro h0.1 (And.intro hl (And.intro hc h0.2.2.1))))
  have HN := Lib.hid (And.intro hn (And.intro ht (And.intro hz hz2)))
  have HI := Lib.hid IH
  have HO := Lib.hid (show MadeS (madeP d) C t w 0 0 ((w.alloc (.cells #[.bool false, .string ⟨#[]⟩, .slice none 0 0] 27)).alloc (.cells #[.bool true, .string ⟨#[]⟩, .slice none 0 0] 27)) from
    ⟨(bel_al _ _).trans ((bel_al _ _).mono (by simp)), by rw [Below.heap_alloc _ _ _ (by simp)]; exact heap_alloc_new _ _,
      .nil, .slice none 0 0, by have := heap_alloc_new (w.alloc (.cells #[.bool false, .string ⟨#[]⟩, .slice none 0 0] 27)) (.cells #[.bool true, .string ⟨#[]⟩, .slice none 0 0] 27); rwa [show (w.alloc (.cells #[.bool false, .string ⟨#[]⟩, .slice none 0 0] 27)).heap.size = w.heap.size + 1 by simp] at this,
      Own.nil _ _, Nat.le_refl _, by simp [Fo.app]⟩)
  clear hb hp h0 hl hc e IH hn ht hz hz2 hC
  go_enter Try.func11, Try.ntmps11
  go_wp2_with fail
  go_loopw [7, 8] (fun u i wr => ∃ j m : Nat, i = .int .i64 j ∧ u = .int .i64 m ∧ j ≤ C ∧ 1 ≤ m ∧ m ≤ n ∧ MadeS (madeP d) C t w j (m - 1) wr) (fun _ i _ => 5 - (intOf i).toNat)
  case atStart => exact ⟨0, 1, rfl, rfl, by omega, by omega, by omega, HO.out⟩
  case round =>
    clear HO d0
    obtain ⟨j, m, rfl, rfl, hj, hm1, hm2, hS⟩ := hrel
    have d1 := (World.cell?_of_block (a := ⟨g, o, none⟩) (hS.below.block g hg)).trans HP.out.2.2.2.2
    by_cases hlt : j < C ∧ m < n
    · obtain ⟨hl1, hl2⟩ := hlt
      have i1 : (j : Int) < (C : Int) := by omega
      have i2 : (m : Int) < (n : Int) := by omega
      have hsl := run_slice_parts g o n c m hl2 HP.out.2.2.2.1
      have hw : IntKind.i64.wrap ((z : Int) + 1) = (z : Int) + 1 := IntWalk.i64_in _ (by have := HN.out.2.2.1; omega)
      have hdr : ((k, s) :: t).drop m = t.drop (m - 1) := by
        obtain ⟨m', rfl⟩ : ∃ m', m = m' + 1 := ⟨m - 1, by omega⟩
        rfl
      have hlen : (t.drop (m - 1)).length = n - m := by rw [List.length_drop, HN.out.2.1]; omega
      have hpa := PAt.drop m ((k, s) :: t) o (HP.out.1.kept (hS.below.block g hg))
      rw [← HN.out.1, Nat.min_eq_left hm2, hdr] at hpa
      have HM := Lib.hid (HI.out g (o + 2 * m) (c - m) (t.drop (m - 1)) wr (by have := HP.out.2.2.1; omega) (by have := HP.out.2.2.2.1; omega) (Nat.lt_of_lt_of_le hg hS.below.size) hpa)
      rw [hlen, ← HN.out.2.2.2] at HM
      have HL := Lib.hid (And.intro (madeP_le d (t.drop (m - 1)) (by have := HP.out.2.2.1; omega)).2 hlen)
      have HS := Lib.hid hS; clear hS
      clear hnn hk2 hdr hlen hpa
      go_wp2_with fail
      go_at_call 11
      refine HM.out.mono ?_
      rintro e w1 ⟨v, rfl, hv, hb⟩
      obtain ⟨b2, t2, a2, n2, q2, hf⟩ := hv.form
      obtain ⟨b3, t3, l3, hf2, hone, hcel⟩ := hv.cel
      rw [hf] at hf2
      obtain ⟨rfl, rfl, rfl⟩ : b2 = b3 ∧ t2 = t3 ∧ .slice a2 n2 q2 = l3 := by simpa using hf2
      subst hf
      clear hf2
      obtain ⟨f, vv, hO1, hO2, hO3, hO4⟩ := HS.out.it
      have hob : wr.heap.size ≤ w1.heap.size := hb.size
      have hlt1 := lt_of hO1
      have c2 : (w1.alloc (.cells #[.bool b2, .string t2, .slice a2 n2 q2] 27)).cell? ⟨w.heap.size + 1, 2, none⟩ = some vv := by
        rw [cell_of ((Below.heap_alloc _ _ _ (by omega)).trans ((hb.block _ hlt1).trans hO1)) 2]; rfl
      have hsa : ((w1.alloc (.cells #[.bool b2, .string t2, .slice a2 n2 q2] 27)).alloc (.cells #[.bool b2, .string t2, .slice a2 n2 q2] 27)).heap.size = w1.heap.size + 2 := by simp
      have hal : ∀ i, i < w1.heap.size → ((w1.alloc (.cells #[.bool b2, .string t2, .slice a2 n2 q2] 27)).alloc (.cells #[.bool b2, .string t2, .slice a2 n2 q2] 27)).heap[i]? = w1.heap[i]? := fun i hi => (Below.heap_alloc _ _ _ (by rw [alloc_size]; omega)).trans (Below.heap_alloc _ _ _ hi)
      have hzz : ((w1.alloc (.cells #[.bool b2, .string t2, .slice a2 n2 q2] 27)).alloc (.cells #[.bool b2, .string t2, .slice a2 n2 q2] 27)).heap[w1.heap.size + 1]? = some (.cells #[.bool b2, .string t2, .slice a2 n2 q2] 27 (0, 0)) := by
        have := heap_alloc_new (w1.alloc (.cells #[.bool b2, .string t2, .slice a2 n2 q2] 27)) (.cells #[.bool b2, .string t2, .slice a2 n2 q2] 27)
        rwa [alloc_size] at this
      have hown : Own (w.heap.size + 2) f vv ((w1.alloc (.cells #[.bool b2, .string t2, .slice a2 n2 q2] 27)).alloc (.cells #[.bool b2, .string t2, .slice a2 n2 q2] 27)) := hO2.kept (fun i _ hi => (hal i (by omega)).trans (hb.block i hi)) (by omega)
      have hSS : ∀ i, (wr.heap.size ≤ i ∧ i < w1.heap.size) → w.heap.size + 2 ≤ i ∧ i < ((w1.alloc (.cells #[.bool b2, .string t2, .slice a2 n2 q2] 27)).alloc (.cells #[.bool b2, .string t2, .slice a2 n2 q2] 27)).heap.size ∧ vv.ownBlock ≠ some i := fun i hi =>
        ⟨by omega, by omega, fun e => by have := (hO2.blk i e).2; omega⟩
      have hcel2 := hcel.kept (W' := ((w1.alloc (.cells #[.bool b2, .string t2, .slice a2 n2 q2] 27)).alloc (.cells #[.bool b2, .string t2, .slice a2 n2 q2] 27))) (fun i hi => hal i hi.2) _ _
      have hout : ((w1.alloc (.cells #[.bool b2, .string t2, .slice a2 n2 q2] 27)).alloc (.cells #[.bool b2, .string t2, .slice a2 n2 q2] 27)).heap[w.heap.size + 1]? = some (.cells #[.bool true, .string ⟨#[]⟩, vv] 27 (0, 0)) := (hal _ (by omega)).trans ((hb.block _ hlt1).trans hO1)
      have hres : ((w1.alloc (.cells #[.bool b2, .string t2, .slice a2 n2 q2] 27)).alloc (.cells #[.bool b2, .string t2, .slice a2 n2 q2] 27)).heap[w.heap.size]? = some (.cells #[.bool false, .string ⟨#[]⟩, .slice none 0 0] 27 (0, 0)) := (hal _ (by omega)).trans ((hb.block _ (by omega)).trans HS.out.res)
      have hbel : Below w.heap.size w ((w1.alloc (.cells #[.bool b2, .string t2, .slice a2 n2 q2] 27)).alloc (.cells #[.bool b2, .string t2, .slice a2 n2 q2] 27)) := HS.out.below.trans ((hb.mono HS.out.below.size).trans ⟨by rfl, by rfl, by rfl, by omega, fun i hi => hal i (by have := HS.out.below.size; omega)⟩)
      have HV := Lib.hid (And.intro hzz (And.intro hown (And.intro hSS (And.intro hone (And.intro hcel2 (by omega : w.heap.size + 2 ≤ ((w1.alloc (.cells #[.bool b2, .string t2, .slice a2 n2 q2] 27)).alloc (.cells #[.bool b2, .string t2, .slice a2 n2 q2] 27)).heap.size))))))
      have HO := Lib.hid (And.intro hout (And.intro hres (And.intro hbel (And.intro hO3 hO4))))
      clear HM hone hcel hb hv hO1 hO2 hO3 hO4 hlt1 hob d1 hsa hal hzz hown hSS hcel2 hout hres hbel
      go_wp2_with (at_builtin; refine wpList_append_item (by rfl) _ _ (by rfl) (w.heap.size + 2) vv f (madeP d (t.drop (m - 1))).1 b2 t2 (.slice a2 n2 q2) (fun k => wr.heap.size ≤ k ∧ k < w1.heap.size) (by rfl) HV.out.2.1 HV.out.2.2.1 HV.out.2.2.2.1 HV.out.2.2.2.2.1 (w1.heap.size + 1) (by rfl) HV.out.1 HV.out.2.2.2.2.2 (by have := HO.out.2.2.2.1; omega) ?_; intro v2 w2 hown2 hgr _hbl; obtain ⟨av, nv, cv, rfl⟩ := hown2.sl.form; have hout2 := (hgr.block (w.heap.size + 1) (lt_of HO.out.1) (fun e => by have := HV.out.2.1.blk _ e.symm; omega)).trans HO.out.1; have hres2 := (hgr.block w.heap.size (by have := lt_of HO.out.1; omega) (fun e => by have := HV.out.2.1.blk _ e.symm; omega)).trans HO.out.2.1; have hbel2 := HO.out.2.2.1.trans (Only.below (Only.grown (may := fun _ => False) (B := w.heap.size) hgr (fun i e => by have := (HV.out.2.1.blk i e).1; omega) HO.out.2.2.1.size) (Nat.le_refl _) (fun _ _ h => h)); obtain ⟨⟨_, _, y2⟩, _, _, z2⟩ := cells3 hout2; have HG := Lib.hid (And.intro hown2 (And.intro hout2 (And.intro hres2 hbel2))); clear hown2 hgr _hbl HV hout2 hres2 hbel2)
      have hq1 := HL.out.1
      have hq2 := HL.out.2
      have hn60 := HP.out.2.2.1
      have hout : (w2.setCell ⟨w.heap.size + 1, 2, none⟩ (.slice av nv cv)).heap[w.heap.size + 1]? = some (.cells #[.bool true, .string ⟨#[]⟩, .slice av nv cv] 27 (0, 0)) := by
        have e := heap_setCell_same _ _ 2 _ _ (.slice av nv cv) HG.out.2.1
        simpa using e
      have hst := madeL_step HO.out.2.2.2.2 hl1 (by have := HN.out.2.1; omega)
      generalize hqq : madeP d (t.drop (m - 1)) = qq at *
      refine ⟨⟨j + 1, m + qq.2, by go_num, ?_, by omega, by omega, by omega, ?_⟩, by simp [intOf]; omega⟩
      · rw [show wrap64 ((m : Int) + (qq.2 : Int)) = ((m + qq.2 : Nat) : Int) from by unfold wrap64; omega]
      · refine ⟨HG.out.2.2.2.setCell (by simp) _, (heap_setCell_other _ _ _ _ (by simp)).trans HG.out.2.2.1, f.app (qq.1.fo .nil), _, hout, ?_, ?_, ?_⟩
        · exact HG.out.1.kept (fun i hi _ => heap_setCell_other _ _ _ _ (by simp; omega)) (by simp [World.setCell])
        · rw [Fo.len_app, show (qq.1.fo .nil).len = 1 by cases qq.1 <;> rfl]; have := HO.out.2.2.2.1; omega
        · rw [show m + qq.2 - 1 = m - 1 + qq.2 by omega]; exact hst
    · obtain ⟨f, v, hO1, hO2, hO3, hO4⟩ := hS.it
      have he := madeL_end hO4 (by have := HN.out.2.1; omega)
      obtain ⟨av, nv, cv, rfl⟩ := hO2.sl.form
      have hres := hS.res
      have hbel := hS.below
      have hset := heap_set3 hres (.bool true) (.string ⟨#[]⟩) (.slice av nv cv)
      have hbs := below_set3 hbel (Nat.le_refl _) (.bool true) (.string ⟨#[]⟩) (.slice av nv cv)
      have hR := Lib.hid (show MadeR (.list (madeL (madeP d) C t).1, 1 + (madeL (madeP d) C t).2) w (.returned (.tuple #[.agg #[.bool true, .string ⟨#[]⟩, .slice av nv cv], .int .i64 (m : Nat)])) (((wr.setCell ⟨w.heap.size, 0, none⟩ (.bool true)).setCell ⟨w.heap.size, 1, none⟩ (.string ⟨#[]⟩)).setCell ⟨w.heap.size, 2, none⟩ (.slice av nv cv)) from by
        rw [he]
        refine ⟨_, by rw [show 1 + (m - 1) = m by omega], ⟨_, rfl, ?_⟩, hbs⟩
        have hk : ∀ i, (w.heap.size + 2 ≤ i ∧ i < wr.heap.size) → (((wr.setCell ⟨w.heap.size, 0, none⟩ (.bool true)).setCell ⟨w.heap.size, 1, none⟩ (.string ⟨#[]⟩)).setCell ⟨w.heap.size, 2, none⟩ (.slice av nv cv)).heap[i]? = wr.heap[i]? := fun i hi => by
          rw [heap_setCell_other _ _ _ _ (by simp; omega), heap_setCell_other _ _ _ _ (by simp; omega), heap_setCell_other _ _ _ _ (by simp; omega)]
        exact (hO2.sl.kept hk).mono (fun i hi => ⟨by omega, by simp [World.setCell]; omega⟩))
      obtain ⟨⟨c0, c1, c2⟩, z0, z1, z2⟩ := cells3 hO1
      obtain ⟨⟨y0, y1, y2⟩, x0, x1, x2⟩ := cells3 hres
      obtain ⟨⟨p0, p1, p2⟩, _⟩ := cells3 hset
      clear hO1 hO2 hO3 hO4 he hres hbel hset hbs hS
      generalize madeL (madeP d) C t = qq at *
      by_cases h4 : j < C
      · have i1 : (j : Int) < (C : Int) := by omega
        have i2 : ¬ (m : Int) < (n : Int) := by omega
        go_wp2_with fail
        exact bodyPost_ret (v := .tuple #[.agg #[.bool true, .string ⟨#[]⟩, .slice av nv cv], .int .i64 (m : Nat)]) (by simp [results, Try.results11, go_sem, p0, p1, p2]) rfl hR.out
      · have i1 : ¬ (j : Int) < (C : Int) := by omega
        go_wp2_with fail
        exact bodyPost_ret (v := .tuple #[.agg #[.bool true, .string ⟨#[]⟩, .slice av nv cv], .int .i64 (m : Nat)]) (by simp [results, Try.results11, go_sem, p0, p1, p2]) rfl hR.out
/-- What made does, at every depth. -/
theorem made_c : ∀ d, d ≤ 61 → MadeC d := by
  intro d
  induction d with
  | zero =>
    intro _ g o c l w hl hc hg hp
    cases l with
    | nil => exact made_nil 0 _ c _ w
    | cons b t =>
      obtain ⟨k, s⟩ := b
      exact made_text k _ s g o c _ w (by simp) (Or.inr (by decide)) hg hp.1.2.2.1 hp.1.2.2.2
  | succ d ih =>
    intro hd g o c l w hl hc hg hp
    cases l with
    | nil => exact made_nil (d + 1) _ c _ w
    | cons b t =>
      obtain ⟨k, s⟩ := b
      by_cases hk : k % 2 = 0
      · have e : madeP (d + 1) ((k, s) :: t) = (.text (s.take 300), 1) := by simp [madeP, hk]
        rw [e]
        exact made_text k _ s g o c _ w (by simp) (Or.inl hk) hg hp.1.2.2.1 hp.1.2.2.2
      · exact made_list hd (ih (by omega)) k s t g o c w hl hc hg hk hp
end Go.Proofs.Ytgaaalacoeainaa
