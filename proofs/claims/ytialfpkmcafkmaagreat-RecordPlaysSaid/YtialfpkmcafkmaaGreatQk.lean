/- exchange, Add, Replace. -/
import Derived.Test.YtialfpkmcafkmaaGreatQj
namespace Go.Proofs.YtialfpkmcafkmaaGreat
open Go.RowKit

def Pd.exchange (p : Pd) (name s : Nm) : Int × Pd := runP p [(·.discard (fresh name)), (·.append (fresh name) s), (·.sync (fresh name)), (·.rename (fresh name) name)]
theorem allocs5 (W : World) (o0 o1 o2 o3 o4 : Obj) : ((((((W.alloc o0).alloc o1).alloc o2).alloc o3).alloc o4).heap[W.heap.size]? = some o0 ∧ (((((W.alloc o0).alloc o1).alloc o2).alloc o3).alloc o4).heap[W.heap.size + 1]? = some o1 ∧ (((((W.alloc o0).alloc o1).alloc o2).alloc o3).alloc o4).heap[W.heap.size + 2]? = some o2 ∧
    (((((W.alloc o0).alloc o1).alloc o2).alloc o3).alloc o4).heap[W.heap.size + 3]? = some o3 ∧ (((((W.alloc o0).alloc o1).alloc o2).alloc o3).alloc o4).heap[W.heap.size + 4]? = some o4) ∧ Below W.heap.size W (((((W.alloc o0).alloc o1).alloc o2).alloc o3).alloc o4) ∧ (((((W.alloc o0).alloc o1).alloc o2).alloc o3).alloc o4).heap.size = W.heap.size + 5 := by
  refine ⟨?_, ?_, ?_⟩
  · simp only [World.alloc, Array.getElem?_push, Array.size_push]
    refine ⟨?_, ?_, ?_, ?_, ?_⟩ <;> ((repeat first | rw [if_neg (by omega)]); first | exact if_pos trivial | exact if_pos rfl | rw [if_pos (by omega)])
  · exact (((((Below.refl _ _).alloc (Nat.le_refl _) _).alloc (by simp) _).alloc (by simp; omega) _).alloc (by simp; omega) _).alloc (by simp; omega) _
  · simp
theorem allocs4 (W : World) (o0 o1 o2 o3 : Obj) : (((((W.alloc o0).alloc o1).alloc o2).alloc o3).heap[W.heap.size]? = some o0 ∧ ((((W.alloc o0).alloc o1).alloc o2).alloc o3).heap[W.heap.size + 1]? = some o1 ∧ ((((W.alloc o0).alloc o1).alloc o2).alloc o3).heap[W.heap.size + 2]? = some o2 ∧
    ((((W.alloc o0).alloc o1).alloc o2).alloc o3).heap[W.heap.size + 3]? = some o3) ∧ Below W.heap.size W ((((W.alloc o0).alloc o1).alloc o2).alloc o3) ∧ ((((W.alloc o0).alloc o1).alloc o2).alloc o3).heap.size = W.heap.size + 4 := by
  refine ⟨?_, ?_, ?_⟩
  · simp only [World.alloc, Array.getElem?_push, Array.size_push]
    refine ⟨?_, ?_, ?_, ?_⟩ <;> ((repeat first | rw [if_neg (by omega)]); first | exact if_pos trivial | exact if_pos rfl | rw [if_pos (by omega)])
  · exact ((((Below.refl _ _).alloc (Nat.le_refl _) _).alloc (by simp) _).alloc (by simp; omega) _).alloc (by simp; omega) _
  · simp
section
variable {p : Pd} {d N : Nat} {F : Nat → Prop} {W : World} {s xs name : Nm}
theorem On.lt (h : On p d N F W) {k : Nat} (hk : F k) : k < W.heap.size := by
  obtain ⟨hp, x, rfl, rfl, h1, h2, h3⟩ := h
  exact h1.lt hk
theorem On.below (h : On p d N F W) {W' : World} (hb : Below W.heap.size W W') : On p d N F W' := by
  obtain ⟨hp, x, rfl, rfl, h1, h2, h3⟩ := h
  exact ⟨hp, x, rfl, rfl, h1.below hb, h2, h3⟩
theorem On.kept (h : On p d N F W) {W' : World} (hk : ∀ k, F k → W'.heap[k]? = W.heap[k]?) : On p d N F W' := by
  obtain ⟨hp, x, rfl, rfl, h1, h2, h3⟩ := h
  exact ⟨hp, x, rfl, rfl, h1.kept hk, h2, h3⟩
set_option maxRecDepth 100000 in
set_option maxHeartbeats 1000000 in
theorem On.exchange (h : On p d N F W) (hN : N < 990000) (hs : name.length ≤ 1000000) (hxs : xs.length ≤ 100000000) :
    Calls Tryz.prog 44 #[.pointer (some ⟨d, 0, none⟩), .string (str name), .string (str xs)] W fun e W' => e = .returned (.int .i64 (p.exchange name xs).1) ∧ Left (p.exchange name xs).2 d (N + 4) F W W' := by
  have C1 := Lib.hid (fun W => fresh_c name hs W)
  have hfl : (fresh name).length ≤ maxLen := by unfold fresh maxLen; simp; omega
  have hnl : name.length ≤ maxLen := by unfold maxLen; omega
  have H := Lib.hid (And.intro h (And.intro hN (And.intro hxs (And.intro hfl hnl))))
  clear h hN hs hxs hfl hnl
  generalize hy : str name = y at *
  generalize hz : str xs = z at *
  generalize ho : str (fresh name) = o at *
  have HY := Lib.hid (And.intro hy (And.intro hz ho))
  clear hy hz ho
  go_enter Tryz.func44, Tryz.ntmps44
  go_wp2_with fail
  refine (C1.out _).mono ?_
  rintro e w1 ⟨rfl, rfl⟩
  go_wp2_with fail
  obtain ⟨⟨a0, a1, a2, a3, a4⟩, hb, hsz⟩ := allocs5 W (.cells #[.pointer (some ⟨d, 0, none⟩)] 25) (.cells #[.string y] 9) (.cells #[.string z] 9) (.cells #[.string o] 9)
    (.cells #[.func (.func 67) #[] #[.pointer (some ⟨W.heap.size, 0, none⟩), .pointer (some ⟨W.heap.size + 1 + 1 + 1, 0, none⟩)], .func (.func 68) #[] #[.pointer (some ⟨W.heap.size, 0, none⟩), .pointer (some ⟨W.heap.size + 1 + 1 + 1, 0, none⟩), .pointer (some ⟨W.heap.size + 1 + 1, 0, none⟩)],
      .func (.func 69) #[] #[.pointer (some ⟨W.heap.size, 0, none⟩), .pointer (some ⟨W.heap.size + 1 + 1 + 1, 0, none⟩)], .func (.func 70) #[] #[.pointer (some ⟨W.heap.size, 0, none⟩), .pointer (some ⟨W.heap.size + 1 + 1 + 1, 0, none⟩), .pointer (some ⟨W.heap.size + 1, 0, none⟩)]] 71)
  generalize ((((W.alloc (.cells #[.pointer (some ⟨d, 0, none⟩)] 25)).alloc (.cells #[.string y] 9)).alloc (.cells #[.string z] 9)).alloc (.cells #[.string o] 9)).alloc
    (.cells #[.func (.func 67) #[] #[.pointer (some ⟨W.heap.size, 0, none⟩), .pointer (some ⟨W.heap.size + 1 + 1 + 1, 0, none⟩)], .func (.func 68) #[] #[.pointer (some ⟨W.heap.size, 0, none⟩), .pointer (some ⟨W.heap.size + 1 + 1 + 1, 0, none⟩), .pointer (some ⟨W.heap.size + 1 + 1, 0, none⟩)],
      .func (.func 69) #[] #[.pointer (some ⟨W.heap.size, 0, none⟩), .pointer (some ⟨W.heap.size + 1 + 1 + 1, 0, none⟩)], .func (.func 70) #[] #[.pointer (some ⟨W.heap.size, 0, none⟩), .pointer (some ⟨W.heap.size + 1 + 1 + 1, 0, none⟩), .pointer (some ⟨W.heap.size + 1, 0, none⟩)]] 71) = V at *
  have hfar : ∀ k, W.heap.size ≤ k → ¬ F k := fun k hk hf => by have := H.out.1.lt hf; omega
  have HR : Calls Tryz.prog 38 #[.slice (some ⟨W.heap.size + 1 + 1 + 1 + 1, 0, none⟩) 4 4] V fun e W' => e = .returned (.int .i64 (p.exchange name xs).1) ∧ Left (p.exchange name xs).2 d (N + 4) F V W' := by
    have q0 : ∀ (F' : Nat → Prop) (U : World), Chg F F' V U → U.cell? ⟨W.heap.size, 0, none⟩ = some (.pointer (some ⟨d, 0, none⟩)) := fun F' U hc => cell_of ((hc.block _ (by omega) (hfar _ (by omega))).trans a0) 0
    have q1 : ∀ (F' : Nat → Prop) (U : World), Chg F F' V U → U.cell? ⟨W.heap.size + 1, 0, none⟩ = some (.string y) := fun F' U hc => cell_of ((hc.block _ (by omega) (hfar _ (by omega))).trans a1) 0
    have q2 : ∀ (F' : Nat → Prop) (U : World), Chg F F' V U → U.cell? ⟨W.heap.size + 1 + 1, 0, none⟩ = some (.string z) := fun F' U hc => cell_of ((hc.block _ (by omega) (hfar _ (by omega))).trans a2) 0
    have q3 : ∀ (F' : Nat → Prop) (U : World), Chg F F' V U → U.cell? ⟨W.heap.size + 1 + 1 + 1, 0, none⟩ = some (.string o) := fun F' U hc => cell_of ((hc.block _ (by omega) (hfar _ (by omega))).trans a3) 0
    have hN := H.out.2.1
    refine run_c [(67, #[.pointer (some ⟨W.heap.size, 0, none⟩), .pointer (some ⟨W.heap.size + 1 + 1 + 1, 0, none⟩)]), (68, #[.pointer (some ⟨W.heap.size, 0, none⟩), .pointer (some ⟨W.heap.size + 1 + 1 + 1, 0, none⟩), .pointer (some ⟨W.heap.size + 1 + 1, 0, none⟩)]),
      (69, #[.pointer (some ⟨W.heap.size, 0, none⟩), .pointer (some ⟨W.heap.size + 1 + 1 + 1, 0, none⟩)]), (70, #[.pointer (some ⟨W.heap.size, 0, none⟩), .pointer (some ⟨W.heap.size + 1 + 1 + 1, 0, none⟩), .pointer (some ⟨W.heap.size + 1, 0, none⟩)])]
      [(·.discard (fresh name)), (·.append (fresh name) xs), (·.sync (fresh name)), (·.rename (fresh name) name)] rfl (W.heap.size + 1 + 1 + 1 + 1) 4 (Nat.le_refl 4) (show 4 ≤ 1000 by omega) (H.out.1.below hb) ?_ (by omega) (hfar _ (by omega)) ?_ ?_
    · intro k st hk
      match k, hk with
      | 0, hk => cases hk; exact cell_of a4 0
      | 1, hk => cases hk; exact cell_of a4 1
      | 2, hk => cases hk; exact cell_of a4 2
      | 3, hk => cases hk; exact cell_of a4 3
    · intro k st hk w
      match k, hk with
      | 0, hk => cases hk; exact enter_exch1 _ _ w
      | 1, hk => cases hk; exact enter_exch2 _ _ _ w
      | 2, hk => cases hk; exact enter_exch3 _ _ w
      | 3, hk => cases hk; exact enter_exch4 _ _ _ w
    · intro k st f hk hf q F' U h1 h2
      match k, hk, hf, h1 with
      | 0, hk, hf, h1 => cases hk; cases hf; exact exch1_c (q0 _ _ h2) (q3 _ _ h2) (HY.out.2.2 ▸ h1.discard (by omega) H.out.2.2.2.1)
      | 1, hk, hf, h1 => cases hk; cases hf; exact exch2_c (q0 _ _ h2) (q3 _ _ h2) (q2 _ _ h2) (HY.out.2.2 ▸ HY.out.2.1 ▸ h1.append (by omega) H.out.2.2.2.1 (by have := H.out.2.2.1; omega))
      | 2, hk, hf, h1 => cases hk; cases hf; exact exch3_c (q0 _ _ h2) (q3 _ _ h2) (HY.out.2.2 ▸ h1.sync (by omega) H.out.2.2.2.1)
      | 3, hk, hf, h1 => cases hk; cases hf; exact exch4_c (q0 _ _ h2) (q3 _ _ h2) (q1 _ _ h2) (HY.out.2.2 ▸ HY.out.1 ▸ h1.rename (by omega) H.out.2.2.2.1 H.out.2.2.2.2)
  have HC := Lib.hid (And.intro HR hb)
  clear HR a0 a1 a2 a3 a4 hb hsz hfar
  refine HC.out.1.mono ?_
  rintro e W2 ⟨rfl, F', k1, k2⟩
  have HQ := Lib.hid (show Left (p.exchange name xs).2 d (N + 4) F W W2 from ⟨F', k1, (Chg.of_below HC.out.2).trans k2⟩)
  clear k1 k2 HC
  go_wp2_with fail
  go_ret
  exact ⟨rfl, HQ.out⟩
def Pd.add (p : Pd) (name s : Nm) : Int × Pd := if s.length ≤ 65536 then runP p [(·.append name (fr s)), (·.sync name)] else (3, p)
def Pd.replace (p : Pd) (name s : Nm) : Int × Pd := if s.length ≤ 65536 then p.exchange name (fr s) else (3, p)
theorem allocs3 (W : World) (o0 o1 o2 : Obj) : Below W.heap.size W (((W.alloc o0).alloc o1).alloc o2) := (((Below.refl _ _).alloc (Nat.le_refl _) _).alloc (by simp) _).alloc (by simp; omega) _
theorem allocs2 (W : World) (o0 o1 : Obj) : (((W.alloc o0).alloc o1).heap[W.heap.size]? = some o0 ∧ ((W.alloc o0).alloc o1).heap[W.heap.size + 1]? = some o1) ∧ Below W.heap.size W ((W.alloc o0).alloc o1) ∧ ((W.alloc o0).alloc o1).heap.size = W.heap.size + 2 := by
  refine ⟨?_, ?_, ?_⟩
  · simp only [World.alloc, Array.getElem?_push, Array.size_push]
    refine ⟨?_, ?_⟩ <;> ((repeat first | rw [if_neg (by omega)]); first | exact if_pos trivial | exact if_pos rfl | rw [if_pos (by omega)])
  · exact ((Below.refl _ _).alloc (Nat.le_refl _) _).alloc (by simp) _
  · simp
set_option maxRecDepth 100000 in
set_option maxHeartbeats 1000000 in
theorem On.replace (h : On p d N F W) (hN : N < 990000) (hs : name.length ≤ 1000000) :
    Calls Tryz.prog 20 #[.pointer (some ⟨d, 0, none⟩), .string (str name), .string (str xs)] W fun e W' => e = .returned (.int .i64 (p.replace name xs).1) ∧ Left (p.replace name xs).2 d (N + 4) F W W' := by
  by_cases hl : xs.length ≤ 65536
  · have C1 := Lib.hid (fun W => frame_c xs hl W)
    have C2 := Lib.hid (fun (W' : World) (hb : Below W.heap.size W W') => (h.below hb).exchange hN hs (xs := fr xs) (by rw [fr_len]; omega))
    have HP := Lib.hid (show p.replace name xs = p.exchange name (fr xs) from if_pos hl)
    rw [HP.out]
    clear h hN hs hl HP
    generalize str (fr xs) = f at *
    generalize str name = y at *
    generalize str xs = z at *
    go_enter Tryz.func20, Tryz.ntmps20
    go_wp2_with fail
    refine (C1.out _).mono ?_
    rintro e w1 ⟨rfl, h1⟩
    have HC := Lib.hid (And.intro (C2.out w1 h1) h1); clear h1 C1 C2
    go_wp2_with fail
    refine HC.out.1.mono ?_
    rintro e w2 ⟨rfl, F', k1, k2⟩
    have HQ := Lib.hid (show Left (p.exchange name (fr xs)).2 d (N + 4) F W w2 from ⟨F', k1, (Chg.of_below HC.out.2).trans k2⟩)
    clear k1 k2 HC
    go_wp2_with fail
    go_ret
    exact ⟨rfl, HQ.out⟩
  · have C1 := Lib.hid (fun W => frame_long (str xs) (by rw [str_size]; omega) W)
    have HP := Lib.hid (show p.replace name xs = (3, p) from if_neg hl)
    have HL := Lib.hid (h.left.mono (M := N + 4) (by omega))
    rw [HP.out]
    clear h hN hs hl HP
    generalize str name = y at *
    generalize str xs = z at *
    go_enter Tryz.func20, Tryz.ntmps20
    go_wp2_with fail
    refine (C1.out _).mono ?_
    rintro e w1 ⟨rfl, rfl⟩
    clear C1
    go_wp2_with fail
    go_ret
    exact ⟨rfl, HL.out⟩
set_option maxRecDepth 100000 in
set_option maxHeartbeats 1000000 in
theorem On.add (h : On p d N F W) (hN : N < 990000) (hs : name.length ≤ 1000000) :
    Calls Tryz.prog 28 #[.pointer (some ⟨d, 0, none⟩), .string (str name), .string (str xs)] W fun e W' => e = .returned (.int .i64 (p.add name xs).1) ∧ Left (p.add name xs).2 d (N + 4) F W W' := by
  by_cases hl : xs.length ≤ 65536
  · have C1 := Lib.hid (fun W => frame_c xs hl W)
    have HP := Lib.hid (show p.add name xs = runP p [(·.append name (fr xs)), (·.sync name)] from if_pos hl)
    have hnl : name.length ≤ maxLen := by unfold maxLen; omega
    have hfl : (fr xs).length ≤ 900000000 := by rw [fr_len]; omega
    have H := Lib.hid (And.intro h (And.intro hN (And.intro hnl hfl)))
    rw [HP.out]
    clear h hN hs hl HP hnl hfl
    generalize hf : str (fr xs) = f at *
    generalize hy : str name = y at *
    have HY := Lib.hid (And.intro hf hy)
    clear hf hy
    generalize str xs = z at *
    go_enter Tryz.func28, Tryz.ntmps28
    go_wp2_with fail
    refine (C1.out _).mono ?_
    rintro e w1 ⟨rfl, h1⟩
    have HB := Lib.hid h1; clear h1 C1
    go_wp2_with fail
    obtain ⟨⟨a0, a1⟩, hb1, hs1⟩ := allocs2 W (.cells #[.pointer (some ⟨d, 0, none⟩)] 25) (.cells #[.string y] 9)
    obtain ⟨⟨a2, a3⟩, hb2, hs2⟩ := allocs2 w1 (.cells #[.string f] 9) (.cells #[.func (.func 56) #[] #[.pointer (some ⟨W.heap.size, 0, none⟩), .pointer (some ⟨W.heap.size + 1, 0, none⟩), .pointer (some ⟨w1.heap.size, 0, none⟩)],
      .func (.func 57) #[] #[.pointer (some ⟨W.heap.size, 0, none⟩), .pointer (some ⟨W.heap.size + 1, 0, none⟩)]] 71)
    have hB := HB.out
    generalize (W.alloc (.cells #[.pointer (some ⟨d, 0, none⟩)] 25)).alloc (.cells #[.string y] 9) = W0 at *
    generalize (w1.alloc (.cells #[.string f] 9)).alloc (.cells #[.func (.func 56) #[] #[.pointer (some ⟨W.heap.size, 0, none⟩), .pointer (some ⟨W.heap.size + 1, 0, none⟩), .pointer (some ⟨w1.heap.size, 0, none⟩)],
      .func (.func 57) #[] #[.pointer (some ⟨W.heap.size, 0, none⟩), .pointer (some ⟨W.heap.size + 1, 0, none⟩)]] 71) = V at *
    have hs3 := hB.size
    have e0 : V.heap[W.heap.size]? = some (.cells #[.pointer (some ⟨d, 0, none⟩)] 25 (0, 0)) := (hb2.block _ (by omega)).trans ((hB.block _ (by omega)).trans a0)
    have e1 : V.heap[W.heap.size + 1]? = some (.cells #[.string y] 9 (0, 0)) := (hb2.block _ (by omega)).trans ((hB.block _ (by omega)).trans a1)
    have hbV : Below W.heap.size W V := hb1.trans ((hB.mono (by omega)).trans (hb2.mono (by omega)))
    have hfar : ∀ k, W.heap.size ≤ k → ¬ F k := fun k hk hf => by have := H.out.1.lt hf; omega
    have HR : Calls Tryz.prog 38 #[.slice (some ⟨w1.heap.size + 1, 0, none⟩) 2 2] V fun e W' => e = .returned (.int .i64 (runP p [(·.append name (fr xs)), (·.sync name)]).1) ∧ Left (runP p [(·.append name (fr xs)), (·.sync name)]).2 d (N + 2) F V W' := by
      have q0 : ∀ (F' : Nat → Prop) (U : World), Chg F F' V U → U.cell? ⟨W.heap.size, 0, none⟩ = some (.pointer (some ⟨d, 0, none⟩)) := fun F' U hc => cell_of ((hc.block _ (by omega) (hfar _ (by omega))).trans e0) 0
      have q1 : ∀ (F' : Nat → Prop) (U : World), Chg F F' V U → U.cell? ⟨W.heap.size + 1, 0, none⟩ = some (.string y) := fun F' U hc => cell_of ((hc.block _ (by omega) (hfar _ (by omega))).trans e1) 0
      have q2 : ∀ (F' : Nat → Prop) (U : World), Chg F F' V U → U.cell? ⟨w1.heap.size, 0, none⟩ = some (.string f) := fun F' U hc => cell_of ((hc.block _ (by omega) (hfar _ (by omega))).trans a2) 0
      have hN := H.out.2.1
      refine run_c [(56, #[.pointer (some ⟨W.heap.size, 0, none⟩), .pointer (some ⟨W.heap.size + 1, 0, none⟩), .pointer (some ⟨w1.heap.size, 0, none⟩)]), (57, #[.pointer (some ⟨W.heap.size, 0, none⟩), .pointer (some ⟨W.heap.size + 1, 0, none⟩)])]
        [(·.append name (fr xs)), (·.sync name)] rfl (w1.heap.size + 1) 2 (Nat.le_refl 2) (show 2 ≤ 1000 by omega) (H.out.1.below hbV) ?_ (by omega) (hfar _ (by omega)) ?_ ?_
      · intro k st hk
        match k, hk with
        | 0, hk => cases hk; exact cell_of a3 0
        | 1, hk => cases hk; exact cell_of a3 1
      · intro k st hk w
        match k, hk with
        | 0, hk => cases hk; exact enter_add1 _ _ _ w
        | 1, hk => cases hk; exact enter_add2 _ _ w
      · intro k st g hk hf q F' U h1 h2
        match k, hk, hf, h1 with
        | 0, hk, hf, h1 => cases hk; cases hf; exact add1_c (q0 _ _ h2) (q1 _ _ h2) (q2 _ _ h2) (HY.out.1 ▸ HY.out.2 ▸ h1.append (by omega) H.out.2.2.1 H.out.2.2.2)
        | 1, hk, hf, h1 => cases hk; cases hf; exact add2_c (q0 _ _ h2) (q1 _ _ h2) (HY.out.2 ▸ h1.sync (by omega) H.out.2.2.1)
    have HC := Lib.hid (And.intro HR hbV)
    clear HR a0 a1 a2 a3 e0 e1 hb1 hb2 hs1 hs2 hs3 hfar hB hbV HB
    refine HC.out.1.mono ?_
    rintro e W2 ⟨rfl, F', k1, k2⟩
    have HQ := Lib.hid (show Left (runP p [(·.append name (fr xs)), (·.sync name)]).2 d (N + 4) F W W2 from ⟨F', k1.mono (by omega), (Chg.of_below HC.out.2).trans k2⟩)
    clear k1 k2 HC
    go_wp2_with fail
    go_ret
    exact ⟨rfl, HQ.out⟩
  · have C1 := Lib.hid (fun W => frame_long (str xs) (by rw [str_size]; omega) W)
    have HP := Lib.hid (show p.add name xs = (3, p) from if_neg hl)
    have HL := Lib.hid (show On p d N F W from h)
    rw [HP.out]
    clear h hN hs hl HP
    generalize str name = y at *
    generalize str xs = z at *
    go_enter Tryz.func28, Tryz.ntmps28
    go_wp2_with fail
    refine (C1.out _).mono ?_
    rintro e w1 ⟨rfl, rfl⟩
    clear C1
    go_wp2_with fail
    go_ret
    have hb := (allocs3 W (.cells #[.pointer (some ⟨d, 0, none⟩)] 25) (.cells #[.string y] 9) (.cells #[.string (str [])] 9))
    exact ⟨rfl, F, (HL.out.below hb).mono (by omega), Chg.of_below hb⟩
end
end Go.Proofs.YtialfpkmcafkmaaGreat
