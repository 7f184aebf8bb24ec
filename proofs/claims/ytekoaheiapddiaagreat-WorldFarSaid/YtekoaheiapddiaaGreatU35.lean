/- Merged: Hu, Hv, Hw, Hx, Hy. -/
import Derived.Test.YtekoaheiapddiaaGreatU34
import Derived.Test.YtekoaheiapddiaaGreatU32
import Derived.Test.YtekoaheiapddiaaGreatU33
import Derived.Test.YtekoaheiapddiaaGreatU29
section
namespace Go.Proofs.YtekoaheiapddiaaGreat.Dz.Wo
open Go.RowKit Go.Maps Mp Go.Shelf

set_option maxRecDepth 100000 in
set_option maxHeartbeats 1000000 in
theorem back1_nil (F : Fence) (n : Nat) (h8 : F.fn 134) (hro : F.round = none) (l Bs : Nat) (J : List Nat → World → Prop) (W : World) (hBs : W.cell? ⟨Bs, 0, none⟩ = some (.slice none 0 0)) (h0 : J [] W) :
    CallsIn F n Tryz.prog 134 #[.func (.yield l) #[] #[], .pointer (some ⟨Bs, 0, none⟩)] W fun e W' => (∃ v, e = .returned v) ∧ J [] W' := by
  refine callsIn_of_wp Tryz.func134 rfl h8 ?_ hro
  simp only [Tryz.ntmps134, List.size_toArray, List.length_cons, List.length_nil, Nat.reduceAdd, Nat.reduceSub, Array.replicate_succ, Array.replicate_zero, List.push_toArray, List.append_toArray, List.nil_append, List.cons_append]
  gi_wp2
  gi_loopw [3] (fun i wr => i = .int .i64 (-1) ∧ J [] wr) (fun _ _ => 0)
  case atStart => exact ⟨rfl, h0⟩
  case round =>
    obtain ⟨rfl, hJs⟩ := hrel
    gi_wp2
    go_end0
    exact ⟨⟨_, rfl⟩, hJs⟩
theorem len_any (a : Option Addr) (L cap : Nat) (ty : TypeId) (V : World) : (Builtin.len_ #[145] ty #[.slice a L cap]).run Tryz.prog V = .ok (.int .i64 (L : Int)) V := by go_simp
theorem cut_lo (a : Option Addr) {L cap mk : Nat} (h : mk ≤ L) (V : World) : (Instr.slice 145 (.slice a L cap) (some (.int .i64 (mk : Int))) none none).run Tryz.prog V = .ok (.slice (if cap = mk then a else a.map (·.add mk)) (L - mk) (cap - mk)) V := by
  have h0 : (0 : Int) ≤ (mk : Int) := by omega
  have h1 : (mk : Int) ≤ (L : Int) := by omega
  rw [run_slice_l (h0 := h0) (h1 := h1) (ht := by kernel_rfl)]
  rw [show (sizeOf (Tryz.prog.elem 145)).run Tryz.prog V = .ok 1 V by kernel_rfl]
  simp [Result.andThen, sliced]
theorem cut_hi (a : Option Addr) {L cap mk : Nat} (h : mk ≤ L) (hc : L ≤ cap) (V : World) : (Instr.slice 145 (.slice a L cap) none (some (.int .i64 (mk : Int))) none).run Tryz.prog V = .ok (.slice a mk cap) V := by
  have h0 : (0 : Int) ≤ (mk : Int) := by omega
  have h1 : (mk : Int) ≤ (cap : Int) := by omega
  rw [run_slice_h (h0 := h0) (h2 := h1) (ht := by kernel_rfl)]
  rw [show (sizeOf (Tryz.prog.elem 145)).run Tryz.prog V = .ok 1 V by kernel_rfl]
  cases a <;> simp [Result.andThen, sliced, Addr.add]
section
variable {x : Sx} {b n : Nat} {fv : Value} {W : World}
theorem wback (h : WAt x b fv n W) (hn : n + x.bs.length < 100000000000) {k mk : Nat} (hk : k ≤ x.bs.length) (hmk : mk = x.bs.length - k) :
    Calls Tryz.prog 39 #[.pointer (some ⟨b, 0, none⟩), .int .i64 (mk : Int)] W fun e W' => e = .returned (.bool true) ∧ ∃ v, WAt (x.cut k v) b fv (n + k) W' ∧ Chg (x.ft b) ((x.cut k v).ft b) W W' := by
  have hr := h.row
  have hkm : x.bs.length - mk = k := by omega
  rcases h.row.2 with ⟨hv, h0⟩ | ⟨g, cap, cur, hv, _, hg, hcap, hmx, hcs, hs⟩
  · obtain rfl : k = 0 := by omega
    obtain rfl : mk = 0 := by omega
    refine wback_gen h hn hk hmk (sa := none) (va := none) (sc := 0) (vc := 0) (g := b) ?_ ?_ ?_ ?_ ?_ (lt_of h.cell) h.b_maps ?_
    · intro ty V; rw [hv, h0]; exact len_any none 0 0 ty V
    · intro V; rw [hv]; exact cut_lo none (Nat.le_refl 0) V
    · intro V; rw [hv]; exact cut_hi none (Nat.le_refl 0) (Nat.le_refl 0) V
    · intro V _
      exact ⟨V, fun ty => by kernel_rfl, Chg.refl _ _, by simp, Or.inl ⟨rfl, rfl⟩⟩
    · intro j hj; cases hj
    · intro Bs V hB _ _ _ _ l J Jx W' hW _ _ hY h0
      exact (back1_nil Fence.wide _ trivial rfl l Bs J W' ((hW.cell (by assumption)).trans hB) h0).mono fun e W2 ⟨he, hj⟩ => ⟨he, .inl ⟨_, rfl, hj⟩⟩
  · have hown : x.sv.ownBlock = some g := by rw [hv]; rfl
    refine wback_gen h hn hk hmk (sa := if cap = mk then some ⟨g, 0, none⟩ else some ⟨g, mk, none⟩) (va := some ⟨g, 0, none⟩) (sc := cap - mk) (vc := cap) (g := g) ?_ ?_ ?_ ?_ ?_ (lt_of hg) (h.sv_maps hown) ?_
    · intro ty V; rw [hv]; exact len_any _ _ _ ty V
    · intro V
      have := cut_lo (cap := cap) (some ⟨g, 0, none⟩) (show mk ≤ x.bs.length by omega) V
      rw [hv, this, hkm]
      by_cases h9 : cap = mk
      · rw [if_pos h9, if_pos h9]
      · rw [if_neg h9, if_neg h9]
        by_cases h8 : mk = 0 <;> simp [Addr.add, h8]
    · intro V; rw [hv]; exact cut_hi _ (by omega) hcap V
    · intro V hV
      have hgV := (hV g hown).trans hg
      have hrow : V.ownsRow 0 1 1 (.slice (some ⟨g, 0, none⟩) mk cap) mk ((List.zipWith bkV x.bs x.qs).reverse.take mk) := by
        refine ⟨?_, Or.inr ⟨g, cap, cur, rfl, Nat.zero_le _, hgV, by omega, hmx, hcs, ?_⟩⟩
        · simp [h.len]; omega
        · rw [← hs, List.take_take]; congr 1; omega
      by_cases hk0 : k = 0
      · subst hk0
        refine ⟨V, fun ty => ?_, Chg.refl _ _, hrow⟩
        split <;> kernel_rfl
      · rw [if_neg (by omega)]
        obtain ⟨c1, cur', c2, c3, c4⟩ := setCells_keep g (List.replicate k Value.nilFunc) mk V cur hgV
        refine ⟨_, fun ty => Lib.run_clear_slice V 145 1 ty .nilFunc (by kernel_rfl) (fun _ => by kernel_rfl) rfl rfl g mk k (cap - mk) (by omega) (fun j hj => ?_) (fun j _ => free_of hgV _), chg_wide c1 fun j hj => by rw [hj]; exact hown, ?_⟩
        · rw [cell_of hgV, Array.getElem?_eq_getElem (by omega)]; rfl
        · refine ⟨hrow.1, Or.inr ⟨g, cap, cur', rfl, Nat.zero_le _, c2, by omega, hmx, by rw [c3]; exact hcs, ?_⟩⟩
          have e7 : cur.toList.take (mk * 1) = (List.zipWith bkV x.bs x.qs).reverse.take mk := by rw [← hs, List.take_take]; congr 1; omega
          rw [← e7]
          apply List.ext_getElem?
          intro i
          by_cases hi : i < mk
          · rw [List.getElem?_take_of_lt (by omega), List.getElem?_take_of_lt (by omega)]
            simpa using c4 i hi
          · rw [List.getElem?_eq_none (by simp; omega), List.getElem?_eq_none (by simp; omega)]
    · intro j hj; rw [hown]; cases hj; rfl
    · intro Bs V hB hBl hgl hV _ l J Jx W' hW _ _ hY h0
      have hB' := (hW.cell (p := ⟨Bs, 0, none⟩) hBl).trans hB
      by_cases hk0 : k = 0
      · subst hk0
        obtain ⟨o9, ho9⟩ : ∃ o9, (if cap = mk then some ⟨g, 0, none⟩ else some ⟨g, mk, none⟩ : Option Addr) = some ⟨g, o9, none⟩ := by split; exact ⟨_, rfl⟩; exact ⟨_, rfl⟩
        rw [ho9] at hB'
        exact back1_in Fence.wide _ trivial rfl (by omega) l Bs g o9 0 (cap - mk) _ (by omega) J Jx hY W' hB' (fun j hj => by omega) h0
      · rw [if_neg (by omega)] at hB'
        refine back1_in Fence.wide _ trivial rfl (by omega) l Bs g mk k (cap - mk) _ (by omega) J Jx hY W' hB' (fun j hj => ?_) h0
        have := row_at h hs hk hj
        rw [(hW.cell (p := ⟨g, mk + j, none⟩) hgl), cell_of ((hV g hown).trans hg), hmk]
        exact this
end
section
variable {w : Wd} {b d bc n N : Nat} {x : Sx} {ff : Nat → Prop} {W : World}
theorem back_true (h : Pw w b d bc n N x ff W) (hn : n < 1000000000) {mk : Nat} (hm : mk ≤ w.old.length) :
    Calls Tryz.prog 39 #[.pointer (some ⟨b, 0, none⟩), .int .i64 (mk : Int)] W fun e W' => e = .returned (.bool (w.back mk).1) ∧ Lv (w.back mk).2 b d bc (n + w.old.length) N (ftP x b ff) W W' := by
  have hl := h.rep.hist.len
  have hf := h.at_.few
  refine (wback h.at_ (by omega) (k := x.bs.length - mk) (by omega) (by omega)).mono ?_
  rintro e V ⟨rfl, v, h1, h2⟩
  have e9 : w.back mk = (true, ⟨(pops (x.bs.length - mk) w.G w.old).1, (pops (x.bs.length - mk) w.G w.old).2, w.far⟩) := by
    unfold Wd.back
    rw [if_neg (by omega), hl]; rfl
  obtain ⟨p1, p2, p3⟩ := pops_back h.rep.abs h.rep.uniq h.rep.hist (show x.bs.length - mk ≤ x.bs.length by omega)
  obtain ⟨g1, g2⟩ := h.act h1 (G := (pops (x.bs.length - mk) w.G w.old).1) (old := (pops (x.bs.length - mk) w.G w.old).2) ⟨p1, p2, p3⟩ h2
  rw [e9]
  exact ⟨rfl, (show Lv _ b d bc (n + (x.bs.length - mk)) N _ W V from ⟨_, _, g1, g2⟩).mono (by omega) (Nat.le_refl _)⟩
end
end Go.Proofs.YtekoaheiapddiaaGreat.Dz.Wo
end
section
namespace Go.Proofs.YtekoaheiapddiaaGreat.Dz.Wo
open Go.RowKit Go.Maps Mp

def addrP (n : Nat) : List UInt8 := if n % 5 = 0 then [97, 97, 97, 97, 97, 97, 97, 97, 97, 97, 97, 97, 97, 97, 97, 97, 97, 97, 97, 97] else if n % 5 = 1 then [98, 98, 98, 98, 98, 98, 98, 98, 98, 98, 98, 98, 98, 98, 98, 98, 98, 98, 98, 98] else if n % 5 = 2 then [99, 99, 99, 99, 99, 99, 99, 99, 99, 99, 99, 99, 99, 99, 99, 99, 99, 99, 99, 99] else if n % 5 = 3 then [115, 104, 111, 114, 116] else [100, 100, 100, 100, 100, 100, 100, 100, 100, 100, 100, 100, 100, 100, 100, 100, 100, 100, 100, 100]
set_option maxRecDepth 100000 in
theorem address_c (n : Nat) (hn : n < 256) (W : World) : Calls Tryz.prog 34 #[.int .u8 n] W fun e W' => e = .returned (.string (str (addrP n))) ∧ Below W.heap.size W W' := by
  obtain ⟨s, hs⟩ : ∃ s, s = W.alloc (.cells #[.string ⟨#[97, 97, 97, 97, 97, 97, 97, 97, 97, 97, 97, 97, 97, 97, 97, 97, 97, 97, 97, 97]⟩, .string ⟨#[98, 98, 98, 98, 98, 98, 98, 98, 98, 98, 98, 98, 98, 98, 98, 98, 98, 98, 98, 98]⟩, .string ⟨#[99, 99, 99, 99, 99, 99, 99, 99, 99, 99, 99, 99, 99, 99, 99, 99, 99, 99, 99, 99]⟩, .string ⟨#[115, 104, 111, 114, 116]⟩, .string ⟨#[100, 100, 100, 100, 100, 100, 100, 100, 100, 100, 100, 100, 100, 100, 100, 100, 100, 100, 100, 100]⟩] 9) := ⟨_, rfl⟩
  have hb : Below W.heap.size W s := by rw [hs]; exact (Below.refl _ _).alloc (Nat.le_refl _) _
  have hg := heap_alloc_new W (.cells #[.string ⟨#[97, 97, 97, 97, 97, 97, 97, 97, 97, 97, 97, 97, 97, 97, 97, 97, 97, 97, 97, 97]⟩, .string ⟨#[98, 98, 98, 98, 98, 98, 98, 98, 98, 98, 98, 98, 98, 98, 98, 98, 98, 98, 98, 98]⟩, .string ⟨#[99, 99, 99, 99, 99, 99, 99, 99, 99, 99, 99, 99, 99, 99, 99, 99, 99, 99, 99, 99]⟩, .string ⟨#[115, 104, 111, 114, 116]⟩, .string ⟨#[100, 100, 100, 100, 100, 100, 100, 100, 100, 100, 100, 100, 100, 100, 100, 100, 100, 100, 100, 100]⟩] 9)
  have c0 := cell_of hg 0
  have c1 := cell_of hg 1
  have c2 := cell_of hg 2
  have c3 := cell_of hg 3
  have c4 := cell_of hg 4
  rw [hs] at hb
  have HB := Lib.hid hb
  clear hb hg hs
  simp only [List.getElem?_toArray, List.getElem?_cons_zero, List.getElem?_cons_succ] at c0 c1 c2 c3 c4
  have hk : n % 5 = 0 ∨ n % 5 = 1 ∨ n % 5 = 2 ∨ n % 5 = 3 ∨ n % 5 = 4 := by omega
  rcases hk with hk | hk | hk | hk | hk
  · have hi : (n : Int) % 5 = 0 := by omega
    have HA := Lib.hid (show str (addrP n) = ⟨#[97, 97, 97, 97, 97, 97, 97, 97, 97, 97, 97, 97, 97, 97, 97, 97, 97, 97, 97, 97]⟩ by unfold addrP; rw [if_pos hk]; rfl)
    rw [HA.out]
    clear hk
    go_enter Tryz.func34, Tryz.ntmps34
    go_wp2_with fail
    go_ret
    exact ⟨rfl, HB.out⟩
  · have hi : (n : Int) % 5 = 1 := by omega
    have HA := Lib.hid (show str (addrP n) = ⟨#[98, 98, 98, 98, 98, 98, 98, 98, 98, 98, 98, 98, 98, 98, 98, 98, 98, 98, 98, 98]⟩ by unfold addrP; rw [if_neg (by omega), if_pos hk]; rfl)
    rw [HA.out]
    clear hk
    go_enter Tryz.func34, Tryz.ntmps34
    go_wp2_with fail
    go_ret
    exact ⟨rfl, HB.out⟩
  · have hi : (n : Int) % 5 = 2 := by omega
    have HA := Lib.hid (show str (addrP n) = ⟨#[99, 99, 99, 99, 99, 99, 99, 99, 99, 99, 99, 99, 99, 99, 99, 99, 99, 99, 99, 99]⟩ by unfold addrP; rw [if_neg (by omega), if_neg (by omega), if_pos hk]; rfl)
    rw [HA.out]
    clear hk
    go_enter Tryz.func34, Tryz.ntmps34
    go_wp2_with fail
    go_ret
    exact ⟨rfl, HB.out⟩
  · have hi : (n : Int) % 5 = 3 := by omega
    have HA := Lib.hid (show str (addrP n) = ⟨#[115, 104, 111, 114, 116]⟩ by unfold addrP; rw [if_neg (by omega), if_neg (by omega), if_neg (by omega), if_pos hk]; rfl)
    rw [HA.out]
    clear hk
    go_enter Tryz.func34, Tryz.ntmps34
    go_wp2_with fail
    go_ret
    exact ⟨rfl, HB.out⟩
  · have hi : (n : Int) % 5 = 4 := by omega
    have HA := Lib.hid (show str (addrP n) = ⟨#[100, 100, 100, 100, 100, 100, 100, 100, 100, 100, 100, 100, 100, 100, 100, 100, 100, 100, 100, 100]⟩ by unfold addrP; rw [if_neg (by omega), if_neg (by omega), if_neg (by omega), if_neg (by omega)]; rfl)
    rw [HA.out]
    clear hk
    go_enter Tryz.func34, Tryz.ntmps34
    go_wp2_with fail
    go_ret
    exact ⟨rfl, HB.out⟩
end Go.Proofs.YtekoaheiapddiaaGreat.Dz.Wo
end
section
namespace Go.Proofs.YtekoaheiapddiaaGreat.Dz.Wo
open Go.RowKit Go.Maps Mp

/-- A world over nothing lies at b; boxes of the law's own; all else as it lay. -/
def St (w : Wd) (b n : Nat) (L : List (Nat × Obj)) (W V : World) : Prop := w.far = .no ∧ ∃ x ff, An (Pw w b 0 0 n 0 x ff) (ftP x b ff) W (fun _ => False) L V
def Wd.ac (w : Wd) (a : Nm) : AccP := if (w.ent a).ch = true then (w.ent a).acc else AccP.zero
theorem Wd.far_no {w : Wd} (h : w.far = .no) : (⟨w.G, w.old, .no⟩ : Wd) = w := by rw [← h]
theorem Wd.acct_no {w : Wd} (h : w.far = .no) {a : Nm} (ha : a.length = 20) : w.acct a = ((w.ac a, 0), w) := by
  unfold Wd.acct Wd.ac
  rw [if_neg (by omega)]
  by_cases hc : (w.ent a).ch = true
  · rw [if_pos hc, if_pos hc]
  · rw [if_neg hc, if_neg hc, h]
    show ((AccP.zero, 0), (⟨w.G, w.old, .no⟩ : Wd)) = _
    rw [Wd.far_no h]
theorem Wd.alter_no {w : Wd} (h : w.far = .no) {a : Nm} (ha : a.length = 20) (f : AccP → AccP) : w.alter a f = (0, w.setAcc a (f (w.ac a))) := by
  unfold Wd.alter
  rw [Wd.acct_no h ha, if_neg (by simp)]
theorem fz_no {N : Nat} {z : Fz} (h : z = .no) : FzOk N z := by rw [h]; exact trivial
section
variable {w w' : Wd} {b n n' : Nat} {L : List (Nat × Obj)} {W V V' : World}
theorem Pw.near {d bc N : Nat} {x : Sx} {ff : Nat → Prop} (hf : w.far = .no) (h : Pw w b d bc n N x ff W) : Pw w b 0 0 n 0 x ff W := by
  obtain ⟨h1, h2, h3, h4⟩ := h
  rw [hf] at h1 h3
  exact ⟨by rw [hf]; exact h1, h2, by rw [hf]; exact h3, h4⟩
theorem St.lv {x : Sx} {ff : Nat → Prop} (M : An (Pw w b 0 0 n 0 x ff) (ftP x b ff) W (fun _ => False) L V) (hf : w'.far = .no) {N : Nat} (h : Lv w' b 0 0 n' N (ftP x b ff) V V') : St w' b n' L W V' := by
  obtain ⟨x', ff', h1, h2⟩ := h
  exact ⟨hf, x', ff', M.step (h1.near hf).ob h2⟩
theorem St.call (h : St w b n L W V) (hb : Below V.heap.size V V') : St w b n L W V' := by
  obtain ⟨hf, x, ff, M⟩ := h
  exact ⟨hf, x, ff, M.call hb⟩
theorem St.alloc (h : St w b n L W V) (o : Obj) : St w b n ((V.heap.size, o) :: L) W (V.alloc o) := by
  obtain ⟨hf, x, ff, M⟩ := h
  exact ⟨hf, x, ff, M.alloc o⟩
theorem St.at (h : St w b n L W V) {q : Nat} {o : Obj} (hm : (q, o) ∈ L) : V.heap[q]? = some o := by
  obtain ⟨hf, x, ff, M⟩ := h
  exact M.at hm
theorem St.below (h : St w b n L W V) : Below W.heap.size W V := by
  obtain ⟨hf, x, ff, M⟩ := h
  have c := M.chg
  exact ⟨c.os, c.tape, c.output, c.size, fun k hk => c.block k hk fun e => e⟩
theorem St.acct (h : St w b n L W V) {a : Nm} (ha : a.length = 20) : Calls Tryz.prog 42 #[.pointer (some ⟨b, 0, none⟩), .string (str a)] V fun e V' => e = .returned (.tuple #[.agg (accCells (w.ac a)), .int .i64 0]) ∧ St w b n L W V' := by
  obtain ⟨hf, x, ff, M⟩ := h
  refine (account_c M.ob.it (fz_no hf) a).mono ?_
  rintro e V1 ⟨rfl, h2⟩
  rw [Wd.acct_no hf ha] at h2 ⊢
  exact ⟨rfl, St.lv M hf h2⟩
theorem St.nonce (h : St w b n L W V) (hn : n < 900000) {a : Nm} (ha : a.length = 20) (m : Nat) : Calls Tryz.prog 33 #[.pointer (some ⟨b, 0, none⟩), .string (str a), .int .u64 (m : Nat)] V fun e V' => e = .returned (.int .i64 0) ∧ St (w.setAcc a ⟨m, (w.ac a).bal, (w.ac a).code⟩) b (n + 2) L W V' := by
  obtain ⟨hf, x, ff, M⟩ := h
  refine (wSetNonce_c M.ob.it (fz_no hf) hn a m).mono ?_
  rintro e V1 ⟨rfl, h2⟩
  rw [Wd.alter_no hf ha] at h2 ⊢
  exact ⟨rfl, St.lv M hf h2⟩
def Wd.wiped (w : Wd) (a : Nm) : Wd := w.set a ⟨true, AccP.zero, true, fun _ => none⟩
theorem St.mark (h : St w b n L W V) : Calls Tryz.prog 31 #[.pointer (some ⟨b, 0, none⟩)] V fun e V' => e = .returned (.int .i64 (w.old.length : Nat)) ∧ V' = V := by
  obtain ⟨hf, x, ff, M⟩ := h
  exact wMark_c M.ob.it
theorem St.back (h : St w b n L W V) (hn : n < 900000) {mk : Nat} (hm : mk ≤ w.old.length) : Calls Tryz.prog 39 #[.pointer (some ⟨b, 0, none⟩), .int .i64 (mk : Int)] V fun e V' => e = .returned (.bool true) ∧ St ⟨(pops (w.old.length - mk) w.G w.old).1, (pops (w.old.length - mk) w.G w.old).2, .no⟩ b (n + w.old.length) L W V' := by
  obtain ⟨hf, x, ff, M⟩ := h
  have e9 : w.back mk = (true, ⟨(pops (w.old.length - mk) w.G w.old).1, (pops (w.old.length - mk) w.G w.old).2, .no⟩) := by
    unfold Wd.back
    rw [if_neg (by omega), hf]; rfl
  refine (back_true M.ob.it (by omega) hm).mono ?_
  rintro e V1 ⟨rfl, h2⟩
  rw [e9] at h2 ⊢
  exact ⟨rfl, St.lv M rfl h2⟩
/-- A world anew, amid boxes. -/
theorem St.new {L : List (Nat × Obj)} (hb : Below W.heap.size W V) (hL : ∀ x ∈ L, V.heap[x.1]? = some x.2 ∧ W.heap.size ≤ x.1) : Calls Tryz.prog 26 #[.pointer none] V fun e V' => e = .returned (.pointer (some ⟨V.heap.size + 2, 0, none⟩)) ∧ St (Wd.new .no) (V.heap.size + 2) 0 L W V' := by
  refine (wnew_c (d := 0) (bc := 0) (N := 0) (z := .no) (ff := fun _ => False) (W := V) rfl).mono ?_
  rintro e V1 ⟨rfl, h1, h2⟩
  refine ⟨rfl, rfl, _, _, h1.ob, ⟨h2.os.trans hb.os, h2.tape.trans hb.tape, h2.output.trans hb.output, Nat.le_trans hb.size h2.size, fun k hk _ => (h2.block k (Nat.lt_of_lt_of_le hk hb.size) fun e => e).trans (hb.block k hk), fun k hk => Or.inr ?_⟩, fun x hx => ?_⟩
  · rcases h2.new k hk with e | e
    · exact e.elim
    · exact Nat.le_trans hb.size e
  · have h3 := hL x hx
    have h4 := lt_of h3.1
    refine ⟨(h2.block x.1 h4 fun e => e).trans h3.1, h3.2, fun e => ?_⟩
    rcases h2.new _ e with e | e
    · exact e
    · omega
end
end Go.Proofs.YtekoaheiapddiaaGreat.Dz.Wo
end
section
namespace Go.Proofs.YtekoaheiapddiaaGreat.Dz.Wo
open Go.RowKit Go.Maps Mp

theorem St.nonceBad {w : Wd} {b n : Nat} {L : List (Nat × Obj)} {W V : World} (h : St w b n L W V) (hn : n < 900000) {a : Nm} (ha : a.length ≠ 20) (m : Nat) : Calls Tryz.prog 33 #[.pointer (some ⟨b, 0, none⟩), .string (str a), .int .u64 (m : Nat)] V fun e V' => e = .returned (.int .i64 1) ∧ St w b (n + 2) L W V' := by
  obtain ⟨hf, x, ff, M⟩ := h
  have e9 : w.alter a (fun y => ⟨m, y.bal, y.code⟩) = (1, w) := by
    have e8 : w.acct a = ((AccP.zero, 1), w) := if_pos ha
    unfold Wd.alter
    rw [e8, if_pos (by simp)]
  refine (wSetNonce_c M.ob.it (fz_no hf) hn a m).mono ?_
  rintro e V1 ⟨rfl, h2⟩
  rw [e9] at h2 ⊢
  exact ⟨rfl, St.lv M hf h2⟩
theorem St.backTo {w w0 : Wd} {b n : Nat} {L : List (Nat × Obj)} {W V : World} (h : St w b n L W V) (hn : n < 900000) {mk : Nat} (hm : mk ≤ w.old.length) (h0 : w0.far = .no) (hp : pops (w.old.length - mk) w.G w.old = (w0.G, w0.old)) : Calls Tryz.prog 39 #[.pointer (some ⟨b, 0, none⟩), .int .i64 (mk : Int)] V fun e V' => e = .returned (.bool true) ∧ St w0 b (n + w.old.length) L W V' := by
  have := h.back hn hm
  rw [hp, Wd.far_no h0] at this
  exact this
theorem addr_len {n : Nat} (h : n % 5 ≠ 3) : (addrP n).length = 20 := by
  have hk : n % 5 = 0 ∨ n % 5 = 1 ∨ n % 5 = 2 ∨ n % 5 = 4 := by omega
  unfold addrP
  rcases hk with e | e | e | e <;> rw [e] <;> rfl
theorem acc5 : accCells ⟨5, 0, []⟩ = #[.int .u64 5, .int .u64 0, .int .u64 0, .int .u64 0, .int .u64 0, .string ⟨#[]⟩] := by simp [accCells, lim_zero, str]
theorem Wd.ac_setAcc (w : Wd) (a : Nm) (y : AccP) : (w.setAcc a y).ac a = y := by
  unfold Wd.ac Wd.setAcc Wd.set Wd.ent
  simp [upf_same]
theorem Wd.ac_new (a : Nm) : (Wd.new .no).ac a = AccP.zero := rfl
set_option maxRecDepth 100000 in
set_option maxHeartbeats 8000000 in
theorem exam_c (W : World) : Calls Tryz.prog 24 #[] W fun e W' => e = .returned (.bool true) ∧ Below W.heap.size W W' := by
  have HN := Lib.hid (St.new (Below.refl W.heap.size W) (L := []) (fun _ h => by cases h))
  have AD := Lib.hid (fun V => address_c 0 (by omega) V)
  rw [show ((0 : Nat) : Int) = 0 from rfl] at AD
  go_enter Tryz.func24, Tryz.ntmps24
  go_wp2_with fail
  refine HN.out.mono ?_
  rintro e V0 ⟨rfl, h9⟩
  obtain ⟨b, hb⟩ : ∃ b, b = W.heap.size + 2 := ⟨_, rfl⟩
  rw [← hb] at h9 ⊢
  have H0 := Lib.hid h9
  clear HN h9 hb
  go_wp2_with fail
  refine (AD.out _).mono ?_
  rintro e V1 ⟨rfl, h9⟩
  have H1 := Lib.hid (H0.out.call h9)
  clear H0 h9
  have C := Lib.hid (H1.out.nonce (by omega) (addr_len (n := 0) (by omega)) 5)
  rw [show ((5 : Nat) : Int) = 5 from rfl] at C
  go_wp2_with fail
  refine C.out.mono ?_
  rintro e V2 ⟨rfl, h9⟩
  have H2 := Lib.hid h9
  clear C H1 h9
  go_wp2_with fail
  refine (AD.out _).mono ?_
  rintro e V3 ⟨rfl, h9⟩
  have H3 := Lib.hid (H2.out.call h9)
  clear H2 h9
  have C := Lib.hid (H3.out.acct (addr_len (n := 0) (by omega)))
  rw [Wd.ac_setAcc, Wd.ac_new, show (⟨5, AccP.zero.bal, AccP.zero.code⟩ : AccP) = ⟨5, 0, []⟩ from rfl, acc5] at C
  go_wp2_with fail
  refine C.out.mono ?_
  rintro e V4 ⟨rfl, h9⟩
  have H4 := Lib.hid (h9.alloc (.cells #[.int .u64 5, .int .u64 0, .int .u64 0, .int .u64 0, .int .u64 0, .string ⟨#[]⟩] 82 (0, 0)))
  clear C H3 h9
  have C := Lib.hid (H4.out.backTo (w0 := Wd.new .no) (by omega) (mk := 0) (Nat.zero_le _) rfl rfl)
  rw [show ((0 : Nat) : Int) = 0 from rfl] at C
  go_wp2_with fail
  refine C.out.mono ?_
  rintro e V5 ⟨rfl, h9⟩
  have H5 := Lib.hid h9
  clear C H4 h9
  go_wp2_with fail
  refine (AD.out _).mono ?_
  rintro e V6 ⟨rfl, h9⟩
  have H6 := Lib.hid (H5.out.call h9)
  clear H5 h9
  have C := Lib.hid (H6.out.acct (addr_len (n := 0) (by omega)))
  rw [Wd.ac_new, accZero] at C
  go_wp2_with fail
  refine C.out.mono ?_
  rintro e V7 ⟨rfl, h9⟩
  have H7 := Lib.hid (h9.alloc (.cells #[.int .u64 0, .int .u64 0, .int .u64 0, .int .u64 0, .int .u64 0, .string ⟨#[]⟩] 82 (0, 0)))
  clear C H6 h9
  have hx1 := cells6 (H7.out.at (q := V4.heap.size) (List.mem_cons_of_mem _ (List.mem_cons_self ..)))
  have hx2 := cells6 (H7.out.at (q := V7.heap.size) (List.mem_cons_self ..))
  obtain ⟨⟨x0, _⟩, _⟩ := hx1
  obtain ⟨⟨y0, y1, y2, y3, y4, y5⟩, _⟩ := hx2
  clear AD
  have C := Lib.hid (H7.out.mark)
  rw [show (((Wd.new .no).old.length : Nat) : Int) = 0 from rfl] at C
  go_wp2_with fail
  refine C.out.mono ?_
  rintro e V8 ⟨rfl, rfl⟩
  clear C
  have C := Lib.hid (H7.out.nonceBad (by show 0 + 2 + _ < 900000; decide) (a := [120]) (by decide) 1)
  rw [show str [120] = ⟨#[120]⟩ from rfl, show ((1 : Nat) : Int) = 1 from rfl] at C
  go_wp2_with fail
  refine C.out.mono ?_
  rintro e V9 ⟨rfl, h9⟩
  have H8 := Lib.hid h9
  clear C H7 h9
  go_wp2_with fail
  go_ret
  exact ⟨rfl, H8.out.below⟩
end Go.Proofs.YtekoaheiapddiaaGreat.Dz.Wo
end
section
namespace Go.Proofs.YtekoaheiapddiaaGreat.Dz.Wo
open Go.RowKit Go.Maps Mp

theorem ob0 (W : World) : Ob (fun _ => True) (fun _ => False) W := ⟨trivial, fun _ h => h.elim, fun _ _ => trivial⟩
end Go.Proofs.YtekoaheiapddiaaGreat.Dz.Wo
end
