/- List. -/
import Derived.Test.YtgaaalacoeainaaLu
import Derived.Test.YtgaaalacoeainaaLk
namespace Go.Proofs.Ytgaaalacoeainaa
open Go.RowKit

/-- So much is still to be copied. -/
def LP (S : Nat → Prop) (w : World) (n3 : Nat) (f : Fo) (vr : Value) (t : Value) (W : World) (n : Nat) : Prop := ∃ q ys, LI S w n3 f vr q ys t W ∧ sizQ q = n ∧ n ≤ 600000
theorem LP.less {S : Nat → Prop} {w : World} {n3 : Nat} {f : Fo} {vr t : Value} {W : World} {n : Nat} (h : LP S w n3 f vr t W n) {m : Nat} (hn : n < m) : (∃ n, LP S w n3 f vr t W n) ∧ least (LP S w n3 f vr t W) < m :=
  ⟨⟨n, h⟩, Nat.lt_of_le_of_lt (least_le h) hn⟩
theorem less_step (k n : Nat) (h : k < n) : n - (((k + 1 : Nat) : Int)).toNat < n - ((k : Int)).toNat := by omega
theorem setCell_size (W : World) (a : Addr) (v : Value) : (W.setCell a v).heap.size = W.heap.size := by simp [World.setCell]
set_option maxRecDepth 100000 in
set_option maxHeartbeats 4000000 in
theorem listS_c (S : Nat → Prop) (f : Fo) (v : Value) (w : World) (h : SlF S f v w) (hS : ∀ k, S k → k < w.heap.size) (hn : f.siz ≤ 500000) :
    Calls Try.prog 24 #[v] w fun e w' => ∃ u, e = .returned u ∧ ItV (fun k => S k ∨ (w.heap.size ≤ k ∧ k < w'.heap.size)) (.list f) u w' ∧ Below w.heap.size w w' := by
  have hlen := f.len_siz
  have HC := Lib.hid (clone_c (W := w.alloc (.cells #[.bool false, .string ⟨#[]⟩, .slice none 0 0] 27)) (h.kept fun k hk => Below.heap_alloc _ _ _ (hS k hk)) (fun k hk => by have := hS k hk; simp; omega) (by omega))
  have HSn := Lib.hid (And.intro hS hn)
  clear h hS hn hlen
  go_enter Try.func24, Try.ntmps24
  go_wp2_with (go_at_call 42; refine HC.out.mono ?_; rintro e W1 ⟨vr, rfl, h1, _, h3, h4⟩; obtain ⟨ra, rc, rfl⟩ := h3.len; have H1 := Lib.hid (And.intro h1 (And.intro h3 h4)); clear h1 h3 h4 HC)
  obtain ⟨k1, k2, k3⟩ := H1.out
  obtain ⟨W2, hW2⟩ : ∃ W2, W2 = (W1.alloc (.cells #[.bool true, .string ⟨#[]⟩, .slice ra f.len rc] 27)).alloc (.cells #[.slice ra f.len rc] 25) := ⟨_, rfl⟩
  have hsz1 := k1.size
  simp only [alloc_size] at hsz1 k1 k2 k3
  have hk2 : ∀ k, k < W1.heap.size → W2.heap[k]? = W1.heap[k]? := fun k hk => by rw [hW2, heap_alloc_get, if_neg (by simp; omega), heap_alloc_get, if_neg (by omega)]
  have hr0 : W1.heap[w.heap.size]? = some (.cells #[.bool false, .string ⟨#[]⟩, .slice none 0 0] 27 (0, 0)) := (k1.block _ (by omega)).trans (heap_alloc_new _ _)
  have hbel : Below w.heap.size w W2 := by
    refine ⟨by rw [hW2]; exact k1.os, by rw [hW2]; exact k1.tape, by rw [hW2]; exact k1.output, by rw [hW2]; simp; omega, fun k hk => (hk2 k (by omega)).trans ((k1.block k (by omega)).trans (Below.heap_alloc _ _ _ hk))⟩
  have hLI : LI S w W1.heap.size f (.slice ra f.len rc) [f] [.slice ra f.len rc] (.slice (some ⟨W1.heap.size + 1, 0, none⟩) 1 1) W2 := by
    have hT : ∀ k, (S k ∨ (w.heap.size + 1 ≤ k ∧ ∃ cur, W1.heap[k]? = some (.cells cur 27 (0, 0)))) → Ti S w W2 k := fun k hk => by
      rcases hk with hk | ⟨_, cur, hc⟩
      · exact Or.inl hk
      · exact Or.inr ⟨by assumption, cur, (hk2 k (lt_of hc)).trans hc⟩
    have hroot : SlF (Ti S w W2) f (.slice ra f.len rc) W2 := (k2.kept fun k hk => hk2 k (by
      rcases hk with hk | ⟨_, cur, hc⟩
      · have := HSn.out.1 k hk; omega
      · exact lt_of hc)).mono hT
    refine ⟨HSn.out.1, hbel, hsz1, by rw [hW2]; exact heap_alloc2_old _ _ _, (hk2 _ (by omega)).trans hr0, hroot, ⟨_, _, rfl, hroot, rfl⟩, fun y hy => ?_, rfl, Or.inr ⟨W1.heap.size + 1, 1, #[.slice ra f.len rc], rfl, Nat.le_refl _, by rw [hW2]; exact heap_alloc2_new _ _ _, Nat.le_refl _, by unfold maxLen; omega, rfl, rfl⟩⟩
    obtain rfl : y = .slice ra f.len rc := by simpa using hy
    rcases k3 with k3 | ⟨g, n, cap, cur, e, hb, hg⟩
    · exact Or.inl k3
    · refine Or.inr ⟨⟨g, n, cap, cur, e, hb, (hk2 g (lt_of hg)).trans hg⟩, ?_⟩
      rw [e]
      intro e2
      have := lt_of hg
      simp [Value.ownBlock] at e2
      omega
  have HLI := Lib.hid hLI
  rw [← hW2]
  clear k1 k2 k3 hW2 hsz1 hk2 hr0 hbel hLI H1
  have hsz := HSn.out.2
  go_loopw [4] (fun t wr => ∃ n, LP S w W1.heap.size f (.slice ra f.len rc) t wr n) (fun t wr => least (LP S w W1.heap.size f (.slice ra f.len rc) t wr))
  case atStart => exact ⟨_, [f], _, HLI.out, rfl, by simp [sizQ]; omega⟩
  case round =>
    clear HLI
    have hex := hrel
    obtain ⟨q, ys, hLI, hlen, hlt⟩ := least_spec hex
    clear hex hrel
    have HL := Lib.hid (And.intro hlen hlt)
    cases q with
    | nil =>
      obtain ⟨ta, tc, rfl⟩ := own_any hLI.row
      have HE := Lib.hid hLI
      obtain ⟨⟨c0, c1, c2⟩, _⟩ := cells3 hLI.row3
      obtain ⟨⟨b0, b1, b2⟩, z0, z1, z2⟩ := cells3 hLI.row0
      clear hLI hlen hlt
      go_wp2_with fail
      have hz := heap_set3 HE.out.row0 (.bool true) (.string ⟨#[]⟩) (.slice ra f.len rc)
      refine bodyPost_ret (results_cell_row Try.results24 _ _ _ _ _ _ _ rfl hz Try.underlying27 rfl (by kernel_rfl)) rfl
        ⟨_, rfl, ⟨_, rfl, ?_⟩, below_set3 HE.out.below (Nat.le_refl _) _ _ _⟩
      have hne : ∀ k, k ≠ w.heap.size → (((wr.setCell ⟨w.heap.size, 0, none⟩ (.bool true)).setCell ⟨w.heap.size, 1, none⟩ (.string ⟨#[]⟩)).setCell ⟨w.heap.size, 2, none⟩ (.slice ra f.len rc)).heap[k]? = wr.heap[k]? := fun k hk => by
        rw [heap_setCell_other _ _ _ _ (by simpa using hk), heap_setCell_other _ _ _ _ (by simpa using hk), heap_setCell_other _ _ _ _ (by simpa using hk)]
      refine (HE.out.root.kept (fun k hk => hne k ?_)).mono (fun k hk => ?_)
      · rcases hk with h | ⟨h, _⟩
        · have := HE.out.hS k h; omega
        · omega
      · have hlt := hk.lt HE.out.hS HE.out.below.size
        rcases hk with h | ⟨h, _⟩
        · exact Or.inl h
        · exact Or.inr ⟨by omega, by simpa [World.setCell] using hlt⟩
    | cons fl q =>
      obtain ⟨y, r0, rfl, hsl, hpd⟩ := hLI.pend
      obtain ⟨g, cap, rfl, hg1, hg2, hg3⟩ := own_form (show wr.ownsRow (W1.heap.size + 1) 25 1 u4 (q.length + 1) _ from hLI.row)
      obtain ⟨hpop, _, hwr, hcy⟩ := hLI.pop
      obtain ⟨ya, yc, rfl⟩ := hsl.len
      have hql := sizQ_len (fl :: q)
      have hmb : (q.length : Int) < 1000000 := by simp at hql; omega
      have HP := Lib.hid (And.intro hpop (And.intro hsl hwr))
      clear hLI hpd hpop hsl hwr hlen hlt hql
      generalize hm : q.length = m at *
      have hi1 : (0 : Int) ≤ (m : Int) ∧ (m : Int) < (m : Int) + 1 := by omega
      have hi2 : (m : Int) ≤ (cap : Int) := by omega
      go_wp2_with fail
      have HI := Lib.hid (show ∃ (f1 f2 : Fo) (q1 : List Fo) (r1 : List Value), fl = f1.app f2 ∧ f1.len = 0 ∧ LI S w W1.heap.size f (.slice ra f.len rc) q1 r1 (.slice (some ⟨g, 0, none⟩) m cap) wr ∧ SlF (Ti S w wr) fl (.slice ya fl.len yc) wr ∧ Wr w W1.heap.size (.slice ya fl.len yc) wr ∧ sizQ q1 + f2.siz ≤ sizQ q + fl.siz from ⟨.nil, fl, q, r0, rfl, rfl, HP.out.1, HP.out.2.1, HP.out.2.2, Nat.le_refl _⟩)
      have hfl : fl.len ≤ 700000 := by
        have h1 := HL.out.1; have h2 := HL.out.2
        rw [← h1, sizQ_cons] at h2
        have := fl.len_siz
        omega
      have HL2 := Lib.hid (show sizQ q + fl.siz < least (LP S w W1.heap.size f (.slice ra f.len rc) (.slice (some ⟨g, 0, none⟩) (m + 1) cap) wr) ∧ sizQ q + fl.siz < 600000 by
        have h1 := HL.out.1; have h2 := HL.out.2
        rw [sizQ_cons] at h1
        omega)
      clear HP hcy hi1 hi2 hmb hg1 hg2 hg3 hm
      obtain ⟨v0, rfl⟩ : ∃ v0, v0 = wr := ⟨_, rfl⟩
      go_loopw [4, 29] (fun t i wr => ∃ k : Nat, i = .int .i64 k ∧ k ≤ fl.len ∧ ∃ (f1 f2 : Fo) (q1 : List Fo) (r1 : List Value), fl = f1.app f2 ∧ f1.len = k ∧ LI S w W1.heap.size f (.slice ra f.len rc) q1 r1 t wr ∧ SlF (Ti S w wr) fl (.slice ya fl.len yc) wr ∧ Wr w W1.heap.size (.slice ya fl.len yc) wr ∧ sizQ q1 + f2.siz ≤ sizQ q + fl.siz) (fun _ i _ => fl.len - (intOf i).toNat)
      case atStart =>
        obtain ⟨f1, f2, q1, r1, h⟩ := HI.out
        exact ⟨0, rfl, by omega, f1, f2, q1, r1, h⟩
      case round =>
        clear HI
        obtain ⟨k, rfl, hk, f1, f2, q1, r1, hf, hf1, hLI, hsl, hwr, hsz2⟩ := hrel
        by_cases hlt : k < fl.len
        · have hki : (k : Int) < (fl.len : Int) := by omega
          have hl2 : 0 < f2.len := by rw [hf, Fo.len_app] at hlt; omega
          obtain ⟨x, r, rfl⟩ := fo_first hl2
          obtain ⟨gl, n, cl, cur, e1, hgl1, hgl2⟩ : Ow (w.heap.size + 1) (.slice ya fl.len yc) wr := by
            rcases hwr with h | h
            · injection h with _ h2 _; omega
            · exact h.1
          injection e1 with e2 e3 e4
          subst e2 e3 e4
          have hgl3 : gl ≠ W1.heap.size := by
            rcases hwr with h | h
            · cases h
            · intro e; exact h.2 (by rw [e]; rfl)
          obtain ⟨u, hu1, hu2⟩ : ∃ u, wr.cell? ⟨gl, k * 3 + 2, none⟩ = some u ∧ SlF (Ti S w wr) x.inner u wr := by
            rcases hsl with ⟨h, _⟩ | ⟨g1, o1, c1, h, _, _, ha⟩
            · cases h
            · injection h with h1 h2 h3
              injection h1 with h1
              injection h1 with h4 h5 h6
              subst h4; subst h5
              rw [hf] at ha
              have := At_inner (At_split f1 (x.fo r) _ _ ha)
              rwa [hf1, Nat.zero_add] at this
          have hxs := It.siz_inner x r
          have hxl := x.inner.len_siz
          have hLs := HL2.out.2
          have hin : x.inner.len ≤ 1000000 := by omega
          have hbs := hLI.below.size
          obtain ⟨ua, uc, rfl⟩ := hu2.len
          obtain ⟨ta, tc, rfl⟩ := own_any hLI.row
          have HC := Lib.hid (clone_c hu2 (fun k hk => hk.lt hLI.hS hbs) hin)
          have HV := Lib.hid (And.intro hLI (And.intro hsl (And.intro hu2 (And.intro hgl2 (And.intro hgl1 (And.intro hgl3 (And.intro hwr (And.intro hsz2 (And.intro hf hf1)))))))))
          have hlgl := Lib.hid (lt_of hgl2)
          clear hLI hsl hu2 hgl2 hgl1 hgl3 hwr hsz2 hf hf1 hxs hxl hLs hbs hl2
          generalize hil : x.inner.len = il at *
          have HIL := Lib.hid hil
          clear hil
          have hk3 : (k : Int) < 700000 := by omega
          have hkb : (0 : Int) ≤ (k : Int) ∧ (k : Int) < (fl.len : Int) := by omega
          by_cases hp : 0 < il
          · have hpi : (0 : Int) < (il : Int) := by omega
            clear hpi
            go_wp2_with fail
            go_at_call 42
            refine HC.out.mono ?_
            rintro e W3 ⟨u', rfl, h1, h2, h3, h4⟩
            obtain ⟨va, vc, hve⟩ := h3.len
            rw [HIL.out] at hve
            subst hve
            have hst := HV.out.1.step HV.out.2.1 HV.out.2.2.1 HV.out.2.2.2.1 HV.out.2.2.2.2.1 HV.out.2.2.2.2.2.1 hu1 h1 h2 h3 h4
            have c3 := hst.1
            have z3 := hst.2.1
            have HS := Lib.hid hst.2.2
            clear h1 h2 h3 h4 HC hst
            have hq1 := Lib.hid (And.intro trivial (show q1.length < 1000000000 by have h1 := HV.out.2.2.2.2.2.2.2.1; have h2 := sizQ_len q1; have h3 := HL2.out.2; omega))
            have hk3' := Lib.hid (And.intro trivial hk3)
            clear hin hfl hsz hk3
            go_wp2_with (at_builtin; refine wpList_append_one (by rfl) _ _ 82 25 (by rfl) Try.underlying82 _ 24 infoSl rfl (by omega) (W1.heap.size + 1) _ q1.length r1.reverse (by rfl) (HS.out.1.row.alloc _) W3.heap.size (.slice va il vc) rfl (by rfl) (by rw [show W3.heap.size = (W3.setCell ⟨gl, k * 3 + 2, none⟩ (.slice va il vc)).heap.size from (setCell_size _ _ _).symm]; exact heap_alloc_new _ _) (by have := lt_of HS.out.1.row3; first | omega | (simp only [alloc_size]; omega)) hq1.out.2 ?_; intro t5 W5 hown5 hgr5 hbl5; have H5 := Lib.hid (HS.out.1.push HS.out.2.2.2.1 HS.out.2.2.2.2 hown5 hgr5); have H6 := Lib.hid (HS.out.1.push_wr HS.out.2.2.1 hgr5); clear hown5 hgr5 hbl5)
            obtain ⟨hLI5, hmv⟩ := H5.out
            obtain ⟨_, hsl5, _, _, _⟩ := HS.out
            obtain ⟨_, _, _, _, _, _, _, hsz2, hf, hf1⟩ := HV.out
            have hwk : wrap64 ((k : Int) + 1) = ((k + 1 : Nat) : Int) := by have := hk3'.out.2; unfold wrap64; omega
            rw [hwk]
            have hxs := It.siz_inner x r
            refine ⟨⟨k + 1, rfl, hlt, f1.app (x.fo .nil), r, x.inner :: q1, _, by rw [hf, Fo.app_assoc, It.fo_app], ?_, hLI5, hmv _ _ hsl5, H6.out, by rw [sizQ_cons]; omega⟩, ?_⟩
            · rw [Fo.len_app, hf1]; cases x <;> rfl
            · exact less_step k _ hlt
          · have hpi : ¬ (0 : Int) < (il : Int) := by omega
            go_wp2_with (first
              | (go_at_call 42; refine HC.out.mono ?_; rintro e W3 ⟨u', rfl, h1, h2, h3, h4⟩; obtain ⟨va, vc, hve⟩ := h3.len; (rw [HIL.out] at hve); subst hve; have hst := HV.out.1.step HV.out.2.1 HV.out.2.2.1 HV.out.2.2.2.1 HV.out.2.2.2.2.1 HV.out.2.2.2.2.2.1 hu1 h1 h2 h3 h4; have c3 := hst.1; have z3 := hst.2.1; have HS := Lib.hid hst.2.2; clear h1 h2 h3 h4 HC hst))
            obtain ⟨hLI5, hsl5, hwr5, _, _⟩ := HS.out
            obtain ⟨_, _, _, _, _, _, _, hsz2, hf, hf1⟩ := HV.out
            have hxs := It.siz_inner x r
            refine ⟨⟨k + 1, rfl, hlt, f1.app (x.fo .nil), r, q1, r1, by rw [hf, Fo.app_assoc, It.fo_app], ?_, hLI5, hsl5, hwr5, by omega⟩, ?_⟩
            · rw [Fo.len_app, hf1]; cases x <;> rfl
            · exact less_step k _ hlt
        · have hkx : ¬ (k : Int) < (fl.len : Int) := by omega
          have hf2 : f2 = .nil := by
            have h1 : f2.len = 0 := by
              have h2 := Fo.len_app f1 f2
              rw [← hf] at h2
              omega
            cases f2 with
            | nil => rfl
            | text _ _ => simp [Fo.len] at h1
            | list _ _ => simp [Fo.len] at h1
          subst hf2
          have HF := Lib.hid (And.intro hLI (show sizQ q1 ≤ sizQ q + fl.siz from by simpa [Fo.siz] using hsz2))
          clear hLI hsl hwr hsz2 hf hf1 hk hlt hfl hsz
          go_wp2_with fail
          exact LP.less ⟨q1, r1, HF.out.1, rfl, by have h1 := HL2.out.2; have h2 := HF.out.2; omega⟩ (by have h1 := HL2.out.1; have h2 := HF.out.2; omega)
theorem list_c (S : Nat → Prop) (f : Fo) (v : Value) (w : World) (h : SlF S f v w) (hS : ∀ k, S k → k < w.heap.size) (hn : f.siz ≤ 500000) :
    Calls Try.prog 24 #[v] w fun e w' => ∃ u, e = .returned u ∧ ItV (fun k => k < w'.heap.size) (.list f) u w' ∧ Below w.heap.size w w' := by
  refine (listS_c S f v w h hS hn).mono ?_
  rintro e w' ⟨u, he, hu, hb⟩
  exact ⟨u, he, hu.mono (fun k hk => by
    have := hb.size
    rcases hk with h | h
    · have := hS k h; omega
    · exact h.2), hb⟩
end Go.Proofs.Ytgaaalacoeainaa
