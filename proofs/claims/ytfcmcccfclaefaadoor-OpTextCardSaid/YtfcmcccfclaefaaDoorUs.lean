/- The reference's All (written by genUs.py). -/
import Derived.Test.YtfcmcccfclaefaaDoorUr
namespace Go.Proofs.YtfcmcccfclaefaaDoor
open Go.RowKit Go.Maps Go.Shelf Mp

theorem Row.new (V : World) {cs : Array Value} {xs : List Value} (h : cs = xs.toArray) (n : Nat) (hn : n = xs.length) (ty : TypeId) : Row (.slice (some ⟨V.heap.size, 0, none⟩) n n) xs (V.alloc (.cells cs ty)) := by
  subst h hn
  refine ⟨_, _, rfl, Or.inr ⟨_, rfl, by rw [alloc_size]; omega, fun j u hj => ?_⟩⟩
  rw [cell_of (heap_alloc_new V (.cells xs.toArray ty (0, 0))) j]
  simpa using hj
/-- Amid All: the rows so far. -/
structure Al (W : World) (l : List RowZ) (v : Value) (V : World) : Prop where
  rows : Rz W.heap.size v l V
  below : Below W.heap.size W V
theorem Al.call {W V V' : World} {l : List RowZ} {v : Value} (h : Al W l v V) (hb : Below V.heap.size V V') : Al W l v V' :=
  ⟨own_keep h.rows fun k hk => hb.block _ (World.ownsRow.lt h.rows k hk).2, h.below.trans (hb.mono h.below.size)⟩
theorem Al.alloc {W V : World} {l : List RowZ} {v : Value} (h : Al W l v V) (o : Obj) : Al W l v (V.alloc o) := h.call ((Below.refl _ _).alloc (Nat.le_refl _) o)
theorem Row.alloc {v : Value} {xs : List Value} {V : World} (h : Row v xs V) (o : Obj) : Row v xs (V.alloc o) := h.call ((Below.refl _ _).alloc (Nat.le_refl _) o)
theorem Rz.lies {B : Nat} {v : Value} {l : List RowZ} {V : World} (h : Rz B v l V) (hne : l ≠ []) : ∃ ad c, v = .slice (some ad) l.length c ∧ ∀ j u, (rowsC l)[j]? = some u → V.cell? (ad.add j) = some u := by
  rcases h.2 with ⟨rfl, h0⟩ | ⟨g, cap, cur, rfl, _⟩
  · exact absurd (List.length_eq_zero_iff.1 h0) hne
  · exact ⟨_, _, rfl, fun j u hj => h.cells (g := g) rfl j u hj⟩
def GrpA (W : World) (l : List RowZ) (v : Value) (l2 : List RowZ) (e : Ending) (W' : World) : Prop := ∃ ad c, e = .returned (.slice (some ad) l2.length c) ∧ Al W l v W' ∧ ∀ j u, (rowsC l2)[j]? = some u → W'.cell? (ad.add j) = some u
theorem Al.group {W V : World} {l : List RowZ} {v : Value} (h : Al W l v V) (cs : List Int) (ns : List Nm) (hl : cs.length = ns.length) (hn : cs.length ≤ 20) (h0 : cs ≠ []) (g i u : Int) {v1 v2 : Value} (r1 : Row v1 (rowIz cs) V) (r2 : Row v2 (rowT ns) V) :
    Calls Tryd.prog 39 #[v1, v2, .int .u64 g, .int .i64 i, .int .i64 u] V (GrpA W l v (grp cs ns g i u)) := by
  refine (group_c cs ns hl hn g i u r1 r2).mono ?_
  rintro e W' ⟨v3, rfl, h3, h4⟩
  obtain ⟨ad, c, rfl, hc⟩ := h3.lies (by intro e; have := grp_len (g := g) (i := i) (u := u) hl; rw [e] at this; exact h0 (List.length_eq_zero_iff.1 this.symm))
  exact ⟨ad, c, rfl, h.call h4, hc⟩
theorem Al.more {W V V' : World} {l l' : List RowZ} {v v' : Value} (h : Al W l v V) (h2 : Rz W.heap.size v' l' V') (h3 : V.grownBy V' v.ownBlock) : Al W l' v' V' :=
  ⟨h2, h.below.grown h3 h.below.size fun k hk => (World.ownsRow.lt h.rows k hk).1⟩
def gC0 : List Int := [0, 254]
def gN0 : List Nm := [[83, 84, 79, 80], [73, 78, 86, 65, 76, 73, 68]]
def gr0 : List RowZ := grp gC0 gN0 0 0 0
def gC1 : List Int := [1, 3]
def gN1 : List Nm := [[65, 68, 68], [83, 85, 66]]
def gr1 : List RowZ := grp gC1 gN1 3 2 1
def gC2 : List Int := [2, 4, 5, 6, 7, 11]
def gN2 : List Nm := [[77, 85, 76], [68, 73, 86], [83, 68, 73, 86], [77, 79, 68], [83, 77, 79, 68], [83, 73, 71, 78, 69, 88, 84, 69, 78, 68]]
def gr2 : List RowZ := grp gC2 gN2 5 2 1
def gC3 : List Int := [8, 9]
def gN3 : List Nm := [[65, 68, 68, 77, 79, 68], [77, 85, 76, 77, 79, 68]]
def gr3 : List RowZ := grp gC3 gN3 8 3 1
def gC4 : List Int := [10]
def gN4 : List Nm := [[69, 88, 80]]
def gr4 : List RowZ := grp gC4 gN4 10 2 1
def gC5 : List Int := [16, 17, 18, 19, 20, 22, 23, 24, 26, 27, 28, 29]
def gN5 : List Nm := [[76, 84], [71, 84], [83, 76, 84], [83, 71, 84], [69, 81], [65, 78, 68], [79, 82], [88, 79, 82], [66, 89, 84, 69], [83, 72, 76], [83, 72, 82], [83, 65, 82]]
def gr5 : List RowZ := grp gC5 gN5 3 2 1
def gC6 : List Int := [21, 25, 53, 81]
def gN6 : List Nm := [[73, 83, 90, 69, 82, 79], [78, 79, 84], [67, 65, 76, 76, 68, 65, 84, 65, 76, 79, 65, 68], [77, 76, 79, 65, 68]]
def gr6 : List RowZ := grp gC6 gN6 3 1 1
def gC7 : List Int := [32]
def gN7 : List Nm := [[75, 69, 67, 67, 65, 75, 50, 53, 54]]
def gr7 : List RowZ := grp gC7 gN7 30 2 1
def gC8 : List Int := [48, 50, 51, 52, 54, 56, 58, 61]
def gN8 : List Nm := [[65, 68, 68, 82, 69, 83, 83], [79, 82, 73, 71, 73, 78], [67, 65, 76, 76, 69, 82], [67, 65, 76, 76, 86, 65, 76, 85, 69], [67, 65, 76, 76, 68, 65, 84, 65, 83, 73, 90, 69], [67, 79, 68, 69, 83, 73, 90, 69], [71, 65, 83, 80, 82, 73, 67, 69], [82, 69, 84, 85, 82, 78, 68, 65, 84, 65, 83, 73, 90, 69]]
def gr8 : List RowZ := grp gC8 gN8 2 0 1
def gC9 : List Int := [49, 59, 63, 84]
def gN9 : List Nm := [[66, 65, 76, 65, 78, 67, 69], [69, 88, 84, 67, 79, 68, 69, 83, 73, 90, 69], [69, 88, 84, 67, 79, 68, 69, 72, 65, 83, 72], [83, 76, 79, 65, 68]]
def gr9 : List RowZ := grp gC9 gN9 0 1 1
def gC10 : List Int := [55, 57, 62]
def gN10 : List Nm := [[67, 65, 76, 76, 68, 65, 84, 65, 67, 79, 80, 89], [67, 79, 68, 69, 67, 79, 80, 89], [82, 69, 84, 85, 82, 78, 68, 65, 84, 65, 67, 79, 80, 89]]
def gr10 : List RowZ := grp gC10 gN10 3 3 0
def gC11 : List Int := [60]
def gN11 : List Nm := [[69, 88, 84, 67, 79, 68, 69, 67, 79, 80, 89]]
def gr11 : List RowZ := grp gC11 gN11 0 4 0
def gC12 : List Int := [64]
def gN12 : List Nm := [[66, 76, 79, 67, 75, 72, 65, 83, 72]]
def gr12 : List RowZ := grp gC12 gN12 20 1 1
def gC13 : List Int := [65, 66, 67, 68, 69, 70, 72, 88, 89, 90, 95]
def gN13 : List Nm := [[67, 79, 73, 78, 66, 65, 83, 69], [84, 73, 77, 69, 83, 84, 65, 77, 80], [78, 85, 77, 66, 69, 82], [80, 82, 69, 86, 82, 65, 78, 68, 65, 79], [71, 65, 83, 76, 73, 77, 73, 84], [67, 72, 65, 73, 78, 73, 68], [66, 65, 83, 69, 70, 69, 69], [80, 67], [77, 83, 73, 90, 69], [71, 65, 83], [80, 85, 83, 72, 48]]
def gr13 : List RowZ := grp gC13 gN13 2 0 1
def gC14 : List Int := [71]
def gN14 : List Nm := [[83, 69, 76, 70, 66, 65, 76, 65, 78, 67, 69]]
def gr14 : List RowZ := grp gC14 gN14 5 0 1
def gC15 : List Int := [80]
def gN15 : List Nm := [[80, 79, 80]]
def gr15 : List RowZ := grp gC15 gN15 2 1 0
def gC16 : List Int := [82, 83]
def gN16 : List Nm := [[77, 83, 84, 79, 82, 69], [77, 83, 84, 79, 82, 69, 56]]
def gr16 : List RowZ := grp gC16 gN16 3 2 0
def gC17 : List Int := [85, 243, 253]
def gN17 : List Nm := [[83, 83, 84, 79, 82, 69], [82, 69, 84, 85, 82, 78], [82, 69, 86, 69, 82, 84]]
def gr17 : List RowZ := grp gC17 gN17 0 2 0
def gC18 : List Int := [86]
def gN18 : List Nm := [[74, 85, 77, 80]]
def gr18 : List RowZ := grp gC18 gN18 8 1 0
def gC19 : List Int := [87]
def gN19 : List Nm := [[74, 85, 77, 80, 73]]
def gr19 : List RowZ := grp gC19 gN19 10 2 0
def gC20 : List Int := [91]
def gN20 : List Nm := [[74, 85, 77, 80, 68, 69, 83, 84]]
def gr20 : List RowZ := grp gC20 gN20 1 0 0
def ac0 : List RowZ := []
def ac1 : List RowZ := ac0 ++ gr0
def ac2 : List RowZ := ac1 ++ gr1
def ac3 : List RowZ := ac2 ++ gr2
def ac4 : List RowZ := ac3 ++ gr3
def ac5 : List RowZ := ac4 ++ gr4
def ac6 : List RowZ := ac5 ++ gr5
def ac7 : List RowZ := ac6 ++ gr6
def ac8 : List RowZ := ac7 ++ gr7
def ac9 : List RowZ := ac8 ++ gr8
def ac10 : List RowZ := ac9 ++ gr9
def ac11 : List RowZ := ac10 ++ gr10
def ac12 : List RowZ := ac11 ++ gr11
def ac13 : List RowZ := ac12 ++ gr12
def ac14 : List RowZ := ac13 ++ gr13
def ac15 : List RowZ := ac14 ++ gr14
def ac16 : List RowZ := ac15 ++ gr15
def ac17 : List RowZ := ac16 ++ gr16
def ac18 : List RowZ := ac17 ++ gr17
def ac19 : List RowZ := ac18 ++ gr18
def ac20 : List RowZ := ac19 ++ gr19
def ac21 : List RowZ := ac20 ++ gr20
def pushL (n : Nat) : List RowZ := (List.range n).flatMap fun (k : Nat) => grp [95 + ((k : Int) + 1)] [[80, 85, 83, 72] ++ dec (k + 1)] 3 0 1
def dupG (k : Nat) : List RowZ := grp [127 + ((k : Int) + 1)] [[68, 85, 80] ++ dec (k + 1)] 3 ((k : Int) + 1) ((k : Int) + 1 + 1)
def swapG (k : Nat) : List RowZ := grp [143 + ((k : Int) + 1)] [[83, 87, 65, 80] ++ dec (k + 1)] 3 ((k : Int) + 1 + 1) ((k : Int) + 1 + 1)
def dupL (n : Nat) : List RowZ := (List.range n).flatMap fun (k : Nat) => dupG k ++ swapG k
def logL (n : Nat) : List RowZ := (List.range n).flatMap fun (k : Nat) => grp [160 + (k : Int)] [[76, 79, 71] ++ dec k] 375 ((k : Int) + 2) 0
theorem flat_succ {α : Type} (n : Nat) (f : Nat → List α) : (List.range (n + 1)).flatMap f = (List.range n).flatMap f ++ f n := by simp [List.range_succ]
theorem pushL_len (n : Nat) : (pushL n).length = n := by
  induction n with
  | zero => rfl
  | succ n ih => unfold pushL at *; rw [flat_succ, List.length_append, ih]; rfl
theorem dupL_len (n : Nat) : (dupL n).length = 2 * n := by
  induction n with
  | zero => rfl
  | succ n ih => unfold dupL at *; rw [flat_succ, List.length_append, ih]; show _ + 2 = _; omega
theorem logL_len (n : Nat) : (logL n).length = n := by
  induction n with
  | zero => rfl
  | succ n ih => unfold logL at *; rw [flat_succ, List.length_append, ih]; rfl
def bc0 : List RowZ := ac21 ++ pushL 32 ++ dupL 16 ++ logL 5
def gC21 : List Int := [240]
def gN21 : List Nm := [[67, 82, 69, 65, 84, 69]]
def gr21 : List RowZ := grp gC21 gN21 32000 3 1
def bc1 : List RowZ := bc0 ++ gr21
def gC22 : List Int := [245]
def gN22 : List Nm := [[67, 82, 69, 65, 84, 69, 50]]
def gr22 : List RowZ := grp gC22 gN22 32000 4 1
def bc2 : List RowZ := bc1 ++ gr22
def gC23 : List Int := [241, 242]
def gN23 : List Nm := [[67, 65, 76, 76], [67, 65, 76, 76, 67, 79, 68, 69]]
def gr23 : List RowZ := grp gC23 gN23 0 7 1
def bc3 : List RowZ := bc2 ++ gr23
def gC24 : List Int := [244, 250]
def gN24 : List Nm := [[68, 69, 76, 69, 71, 65, 84, 69, 67, 65, 76, 76], [83, 84, 65, 84, 73, 67, 67, 65, 76, 76]]
def gr24 : List RowZ := grp gC24 gN24 0 6 1
def bc4 : List RowZ := bc3 ++ gr24
def gC25 : List Int := [255]
def gN25 : List Nm := [[83, 69, 76, 70, 68, 69, 83, 84, 82, 85, 67, 84]]
def gr25 : List RowZ := grp gC25 gN25 5000 1 0
def bc5 : List RowZ := bc4 ++ gr25
/-- All rows of the reference. -/
abbrev refAll : List RowZ := bc5
set_option maxRecDepth 100000 in
set_option maxHeartbeats 16000000 in
theorem rall_c (W : World) : Calls Tryd.prog 20 #[] W fun e W' => ∃ v, e = .returned v ∧ Al W refAll v W' := by
  have H := Lib.hid (show Al W ac0 (.slice none 0 0) W from ⟨⟨rfl, Or.inl ⟨rfl, rfl⟩⟩, Below.refl _ _⟩)
  go_enter Tryd.func20, Tryd.ntmps20
  go_wp2_with fail
  have C0 := ((H.out.alloc (.cells #[.int .i64 0, .int .i64 254] 3)).alloc (.cells #[.string { data := #[83, 84, 79, 80] }, .string { data := #[73, 78, 86, 65, 76, 73, 68] }] 9)).group gC0 gN0 (by decide) (by decide) (by decide) 0 0 0 ((Row.new _ (cs := #[.int .i64 0, .int .i64 254]) (xs := rowIz gC0) (by rfl) 2 (by rfl) 3).alloc _) (Row.new _ (cs := #[.string { data := #[83, 84, 79, 80] }, .string { data := #[73, 78, 86, 65, 76, 73, 68] }]) (xs := rowT gN0) (by rfl) 2 (by rfl) 9)
  rw [alloc_size] at C0
  refine C0.mono ?_
  clear C0
  rintro e V1 ⟨ad, cc, rfl, h1, h2⟩
  have G := Lib.hid (And.intro h1 h2)
  clear h1 h2 H
  rw [show (grp gC0 gN0 0 0 0).length = 2 from rfl]
  go_wp2_with (at_builtin; refine wpList_append_rows (l2 := gr0) (by rfl) _ _ (by rfl) (by rfl) G.out.1.rows G.out.1.below.size (by rfl) (by rfl) G.out.2 (by decide) ?_; intro v9 V2 h3 h4; have H := Lib.hid (show Al W ac1 v9 V2 from G.out.1.more h3 h4); clear h3 h4 G)
  go_wp2_with fail
  have C0 := ((H.out.alloc (.cells #[.int .i64 1, .int .i64 3] 3)).alloc (.cells #[.string { data := #[65, 68, 68] }, .string { data := #[83, 85, 66] }] 9)).group gC1 gN1 (by decide) (by decide) (by decide) 3 2 1 ((Row.new _ (cs := #[.int .i64 1, .int .i64 3]) (xs := rowIz gC1) (by rfl) 2 (by rfl) 3).alloc _) (Row.new _ (cs := #[.string { data := #[65, 68, 68] }, .string { data := #[83, 85, 66] }]) (xs := rowT gN1) (by rfl) 2 (by rfl) 9)
  rw [alloc_size] at C0
  refine C0.mono ?_
  clear C0
  rintro e V1 ⟨ad, cc, rfl, h1, h2⟩
  have G := Lib.hid (And.intro h1 h2)
  clear h1 h2 H
  rw [show (grp gC1 gN1 3 2 1).length = 2 from rfl]
  go_wp2_with (at_builtin; refine wpList_append_rows (l2 := gr1) (by rfl) _ _ (by rfl) (by rfl) G.out.1.rows G.out.1.below.size (by rfl) (by rfl) G.out.2 (by decide) ?_; intro v9 V2 h3 h4; have H := Lib.hid (show Al W ac2 v9 V2 from G.out.1.more h3 h4); clear h3 h4 G)
  go_wp2_with fail
  have C0 := ((H.out.alloc (.cells #[.int .i64 2, .int .i64 4, .int .i64 5, .int .i64 6, .int .i64 7, .int .i64 11] 3)).alloc (.cells #[.string { data := #[77, 85, 76] }, .string { data := #[68, 73, 86] }, .string { data := #[83, 68, 73, 86] }, .string { data := #[77, 79, 68] }, .string { data := #[83, 77, 79, 68] }, .string { data := #[83, 73, 71, 78, 69, 88, 84, 69, 78, 68] }] 9)).group gC2 gN2 (by decide) (by decide) (by decide) 5 2 1 ((Row.new _ (cs := #[.int .i64 2, .int .i64 4, .int .i64 5, .int .i64 6, .int .i64 7, .int .i64 11]) (xs := rowIz gC2) (by rfl) 6 (by rfl) 3).alloc _) (Row.new _ (cs := #[.string { data := #[77, 85, 76] }, .string { data := #[68, 73, 86] }, .string { data := #[83, 68, 73, 86] }, .string { data := #[77, 79, 68] }, .string { data := #[83, 77, 79, 68] }, .string { data := #[83, 73, 71, 78, 69, 88, 84, 69, 78, 68] }]) (xs := rowT gN2) (by rfl) 6 (by rfl) 9)
  rw [alloc_size] at C0
  refine C0.mono ?_
  clear C0
  rintro e V1 ⟨ad, cc, rfl, h1, h2⟩
  have G := Lib.hid (And.intro h1 h2)
  clear h1 h2 H
  rw [show (grp gC2 gN2 5 2 1).length = 6 from rfl]
  go_wp2_with (at_builtin; refine wpList_append_rows (l2 := gr2) (by rfl) _ _ (by rfl) (by rfl) G.out.1.rows G.out.1.below.size (by rfl) (by rfl) G.out.2 (by decide) ?_; intro v9 V2 h3 h4; have H := Lib.hid (show Al W ac3 v9 V2 from G.out.1.more h3 h4); clear h3 h4 G)
  go_wp2_with fail
  have C0 := ((H.out.alloc (.cells #[.int .i64 8, .int .i64 9] 3)).alloc (.cells #[.string { data := #[65, 68, 68, 77, 79, 68] }, .string { data := #[77, 85, 76, 77, 79, 68] }] 9)).group gC3 gN3 (by decide) (by decide) (by decide) 8 3 1 ((Row.new _ (cs := #[.int .i64 8, .int .i64 9]) (xs := rowIz gC3) (by rfl) 2 (by rfl) 3).alloc _) (Row.new _ (cs := #[.string { data := #[65, 68, 68, 77, 79, 68] }, .string { data := #[77, 85, 76, 77, 79, 68] }]) (xs := rowT gN3) (by rfl) 2 (by rfl) 9)
  rw [alloc_size] at C0
  refine C0.mono ?_
  clear C0
  rintro e V1 ⟨ad, cc, rfl, h1, h2⟩
  have G := Lib.hid (And.intro h1 h2)
  clear h1 h2 H
  rw [show (grp gC3 gN3 8 3 1).length = 2 from rfl]
  go_wp2_with (at_builtin; refine wpList_append_rows (l2 := gr3) (by rfl) _ _ (by rfl) (by rfl) G.out.1.rows G.out.1.below.size (by rfl) (by rfl) G.out.2 (by decide) ?_; intro v9 V2 h3 h4; have H := Lib.hid (show Al W ac4 v9 V2 from G.out.1.more h3 h4); clear h3 h4 G)
  go_wp2_with fail
  have C0 := ((H.out.alloc (.cells #[.int .i64 10] 3)).alloc (.cells #[.string { data := #[69, 88, 80] }] 9)).group gC4 gN4 (by decide) (by decide) (by decide) 10 2 1 ((Row.new _ (cs := #[.int .i64 10]) (xs := rowIz gC4) (by rfl) 1 (by rfl) 3).alloc _) (Row.new _ (cs := #[.string { data := #[69, 88, 80] }]) (xs := rowT gN4) (by rfl) 1 (by rfl) 9)
  rw [alloc_size] at C0
  refine C0.mono ?_
  clear C0
  rintro e V1 ⟨ad, cc, rfl, h1, h2⟩
  have G := Lib.hid (And.intro h1 h2)
  clear h1 h2 H
  rw [show (grp gC4 gN4 10 2 1).length = 1 from rfl]
  go_wp2_with (at_builtin; refine wpList_append_rows (l2 := gr4) (by rfl) _ _ (by rfl) (by rfl) G.out.1.rows G.out.1.below.size (by rfl) (by rfl) G.out.2 (by decide) ?_; intro v9 V2 h3 h4; have H := Lib.hid (show Al W ac5 v9 V2 from G.out.1.more h3 h4); clear h3 h4 G)
  go_wp2_with fail
  have C0 := ((H.out.alloc (.cells #[.int .i64 16, .int .i64 17, .int .i64 18, .int .i64 19, .int .i64 20, .int .i64 22, .int .i64 23, .int .i64 24, .int .i64 26, .int .i64 27, .int .i64 28, .int .i64 29] 3)).alloc (.cells #[.string { data := #[76, 84] }, .string { data := #[71, 84] }, .string { data := #[83, 76, 84] }, .string { data := #[83, 71, 84] }, .string { data := #[69, 81] }, .string { data := #[65, 78, 68] }, .string { data := #[79, 82] }, .string { data := #[88, 79, 82] }, .string { data := #[66, 89, 84, 69] }, .string { data := #[83, 72, 76] }, .string { data := #[83, 72, 82] }, .string { data := #[83, 65, 82] }] 9)).group gC5 gN5 (by decide) (by decide) (by decide) 3 2 1 ((Row.new _ (cs := #[.int .i64 16, .int .i64 17, .int .i64 18, .int .i64 19, .int .i64 20, .int .i64 22, .int .i64 23, .int .i64 24, .int .i64 26, .int .i64 27, .int .i64 28, .int .i64 29]) (xs := rowIz gC5) (by rfl) 12 (by rfl) 3).alloc _) (Row.new _ (cs := #[.string { data := #[76, 84] }, .string { data := #[71, 84] }, .string { data := #[83, 76, 84] }, .string { data := #[83, 71, 84] }, .string { data := #[69, 81] }, .string { data := #[65, 78, 68] }, .string { data := #[79, 82] }, .string { data := #[88, 79, 82] }, .string { data := #[66, 89, 84, 69] }, .string { data := #[83, 72, 76] }, .string { data := #[83, 72, 82] }, .string { data := #[83, 65, 82] }]) (xs := rowT gN5) (by rfl) 12 (by rfl) 9)
  rw [alloc_size] at C0
  refine C0.mono ?_
  clear C0
  rintro e V1 ⟨ad, cc, rfl, h1, h2⟩
  have G := Lib.hid (And.intro h1 h2)
  clear h1 h2 H
  rw [show (grp gC5 gN5 3 2 1).length = 12 from rfl]
  go_wp2_with (at_builtin; refine wpList_append_rows (l2 := gr5) (by rfl) _ _ (by rfl) (by rfl) G.out.1.rows G.out.1.below.size (by rfl) (by rfl) G.out.2 (by decide) ?_; intro v9 V2 h3 h4; have H := Lib.hid (show Al W ac6 v9 V2 from G.out.1.more h3 h4); clear h3 h4 G)
  go_wp2_with fail
  have C0 := ((H.out.alloc (.cells #[.int .i64 21, .int .i64 25, .int .i64 53, .int .i64 81] 3)).alloc (.cells #[.string { data := #[73, 83, 90, 69, 82, 79] }, .string { data := #[78, 79, 84] }, .string { data := #[67, 65, 76, 76, 68, 65, 84, 65, 76, 79, 65, 68] }, .string { data := #[77, 76, 79, 65, 68] }] 9)).group gC6 gN6 (by decide) (by decide) (by decide) 3 1 1 ((Row.new _ (cs := #[.int .i64 21, .int .i64 25, .int .i64 53, .int .i64 81]) (xs := rowIz gC6) (by rfl) 4 (by rfl) 3).alloc _) (Row.new _ (cs := #[.string { data := #[73, 83, 90, 69, 82, 79] }, .string { data := #[78, 79, 84] }, .string { data := #[67, 65, 76, 76, 68, 65, 84, 65, 76, 79, 65, 68] }, .string { data := #[77, 76, 79, 65, 68] }]) (xs := rowT gN6) (by rfl) 4 (by rfl) 9)
  rw [alloc_size] at C0
  refine C0.mono ?_
  clear C0
  rintro e V1 ⟨ad, cc, rfl, h1, h2⟩
  have G := Lib.hid (And.intro h1 h2)
  clear h1 h2 H
  rw [show (grp gC6 gN6 3 1 1).length = 4 from rfl]
  go_wp2_with (at_builtin; refine wpList_append_rows (l2 := gr6) (by rfl) _ _ (by rfl) (by rfl) G.out.1.rows G.out.1.below.size (by rfl) (by rfl) G.out.2 (by decide) ?_; intro v9 V2 h3 h4; have H := Lib.hid (show Al W ac7 v9 V2 from G.out.1.more h3 h4); clear h3 h4 G)
  go_wp2_with fail
  have C0 := ((H.out.alloc (.cells #[.int .i64 32] 3)).alloc (.cells #[.string { data := #[75, 69, 67, 67, 65, 75, 50, 53, 54] }] 9)).group gC7 gN7 (by decide) (by decide) (by decide) 30 2 1 ((Row.new _ (cs := #[.int .i64 32]) (xs := rowIz gC7) (by rfl) 1 (by rfl) 3).alloc _) (Row.new _ (cs := #[.string { data := #[75, 69, 67, 67, 65, 75, 50, 53, 54] }]) (xs := rowT gN7) (by rfl) 1 (by rfl) 9)
  rw [alloc_size] at C0
  refine C0.mono ?_
  clear C0
  rintro e V1 ⟨ad, cc, rfl, h1, h2⟩
  have G := Lib.hid (And.intro h1 h2)
  clear h1 h2 H
  rw [show (grp gC7 gN7 30 2 1).length = 1 from rfl]
  go_wp2_with (at_builtin; refine wpList_append_rows (l2 := gr7) (by rfl) _ _ (by rfl) (by rfl) G.out.1.rows G.out.1.below.size (by rfl) (by rfl) G.out.2 (by decide) ?_; intro v9 V2 h3 h4; have H := Lib.hid (show Al W ac8 v9 V2 from G.out.1.more h3 h4); clear h3 h4 G)
  go_wp2_with fail
  have C0 := ((H.out.alloc (.cells #[.int .i64 48, .int .i64 50, .int .i64 51, .int .i64 52, .int .i64 54, .int .i64 56, .int .i64 58, .int .i64 61] 3)).alloc (.cells #[.string { data := #[65, 68, 68, 82, 69, 83, 83] }, .string { data := #[79, 82, 73, 71, 73, 78] }, .string { data := #[67, 65, 76, 76, 69, 82] }, .string { data := #[67, 65, 76, 76, 86, 65, 76, 85, 69] }, .string { data := #[67, 65, 76, 76, 68, 65, 84, 65, 83, 73, 90, 69] }, .string { data := #[67, 79, 68, 69, 83, 73, 90, 69] }, .string { data := #[71, 65, 83, 80, 82, 73, 67, 69] }, .string { data := #[82, 69, 84, 85, 82, 78, 68, 65, 84, 65, 83, 73, 90, 69] }] 9)).group gC8 gN8 (by decide) (by decide) (by decide) 2 0 1 ((Row.new _ (cs := #[.int .i64 48, .int .i64 50, .int .i64 51, .int .i64 52, .int .i64 54, .int .i64 56, .int .i64 58, .int .i64 61]) (xs := rowIz gC8) (by rfl) 8 (by rfl) 3).alloc _) (Row.new _ (cs := #[.string { data := #[65, 68, 68, 82, 69, 83, 83] }, .string { data := #[79, 82, 73, 71, 73, 78] }, .string { data := #[67, 65, 76, 76, 69, 82] }, .string { data := #[67, 65, 76, 76, 86, 65, 76, 85, 69] }, .string { data := #[67, 65, 76, 76, 68, 65, 84, 65, 83, 73, 90, 69] }, .string { data := #[67, 79, 68, 69, 83, 73, 90, 69] }, .string { data := #[71, 65, 83, 80, 82, 73, 67, 69] }, .string { data := #[82, 69, 84, 85, 82, 78, 68, 65, 84, 65, 83, 73, 90, 69] }]) (xs := rowT gN8) (by rfl) 8 (by rfl) 9)
  rw [alloc_size] at C0
  refine C0.mono ?_
  clear C0
  rintro e V1 ⟨ad, cc, rfl, h1, h2⟩
  have G := Lib.hid (And.intro h1 h2)
  clear h1 h2 H
  rw [show (grp gC8 gN8 2 0 1).length = 8 from rfl]
  go_wp2_with (at_builtin; refine wpList_append_rows (l2 := gr8) (by rfl) _ _ (by rfl) (by rfl) G.out.1.rows G.out.1.below.size (by rfl) (by rfl) G.out.2 (by decide) ?_; intro v9 V2 h3 h4; have H := Lib.hid (show Al W ac9 v9 V2 from G.out.1.more h3 h4); clear h3 h4 G)
  go_wp2_with fail
  have C0 := ((H.out.alloc (.cells #[.int .i64 49, .int .i64 59, .int .i64 63, .int .i64 84] 3)).alloc (.cells #[.string { data := #[66, 65, 76, 65, 78, 67, 69] }, .string { data := #[69, 88, 84, 67, 79, 68, 69, 83, 73, 90, 69] }, .string { data := #[69, 88, 84, 67, 79, 68, 69, 72, 65, 83, 72] }, .string { data := #[83, 76, 79, 65, 68] }] 9)).group gC9 gN9 (by decide) (by decide) (by decide) 0 1 1 ((Row.new _ (cs := #[.int .i64 49, .int .i64 59, .int .i64 63, .int .i64 84]) (xs := rowIz gC9) (by rfl) 4 (by rfl) 3).alloc _) (Row.new _ (cs := #[.string { data := #[66, 65, 76, 65, 78, 67, 69] }, .string { data := #[69, 88, 84, 67, 79, 68, 69, 83, 73, 90, 69] }, .string { data := #[69, 88, 84, 67, 79, 68, 69, 72, 65, 83, 72] }, .string { data := #[83, 76, 79, 65, 68] }]) (xs := rowT gN9) (by rfl) 4 (by rfl) 9)
  rw [alloc_size] at C0
  refine C0.mono ?_
  clear C0
  rintro e V1 ⟨ad, cc, rfl, h1, h2⟩
  have G := Lib.hid (And.intro h1 h2)
  clear h1 h2 H
  rw [show (grp gC9 gN9 0 1 1).length = 4 from rfl]
  go_wp2_with (at_builtin; refine wpList_append_rows (l2 := gr9) (by rfl) _ _ (by rfl) (by rfl) G.out.1.rows G.out.1.below.size (by rfl) (by rfl) G.out.2 (by decide) ?_; intro v9 V2 h3 h4; have H := Lib.hid (show Al W ac10 v9 V2 from G.out.1.more h3 h4); clear h3 h4 G)
  go_wp2_with fail
  have C0 := ((H.out.alloc (.cells #[.int .i64 55, .int .i64 57, .int .i64 62] 3)).alloc (.cells #[.string { data := #[67, 65, 76, 76, 68, 65, 84, 65, 67, 79, 80, 89] }, .string { data := #[67, 79, 68, 69, 67, 79, 80, 89] }, .string { data := #[82, 69, 84, 85, 82, 78, 68, 65, 84, 65, 67, 79, 80, 89] }] 9)).group gC10 gN10 (by decide) (by decide) (by decide) 3 3 0 ((Row.new _ (cs := #[.int .i64 55, .int .i64 57, .int .i64 62]) (xs := rowIz gC10) (by rfl) 3 (by rfl) 3).alloc _) (Row.new _ (cs := #[.string { data := #[67, 65, 76, 76, 68, 65, 84, 65, 67, 79, 80, 89] }, .string { data := #[67, 79, 68, 69, 67, 79, 80, 89] }, .string { data := #[82, 69, 84, 85, 82, 78, 68, 65, 84, 65, 67, 79, 80, 89] }]) (xs := rowT gN10) (by rfl) 3 (by rfl) 9)
  rw [alloc_size] at C0
  refine C0.mono ?_
  clear C0
  rintro e V1 ⟨ad, cc, rfl, h1, h2⟩
  have G := Lib.hid (And.intro h1 h2)
  clear h1 h2 H
  rw [show (grp gC10 gN10 3 3 0).length = 3 from rfl]
  go_wp2_with (at_builtin; refine wpList_append_rows (l2 := gr10) (by rfl) _ _ (by rfl) (by rfl) G.out.1.rows G.out.1.below.size (by rfl) (by rfl) G.out.2 (by decide) ?_; intro v9 V2 h3 h4; have H := Lib.hid (show Al W ac11 v9 V2 from G.out.1.more h3 h4); clear h3 h4 G)
  go_wp2_with fail
  have C0 := ((H.out.alloc (.cells #[.int .i64 60] 3)).alloc (.cells #[.string { data := #[69, 88, 84, 67, 79, 68, 69, 67, 79, 80, 89] }] 9)).group gC11 gN11 (by decide) (by decide) (by decide) 0 4 0 ((Row.new _ (cs := #[.int .i64 60]) (xs := rowIz gC11) (by rfl) 1 (by rfl) 3).alloc _) (Row.new _ (cs := #[.string { data := #[69, 88, 84, 67, 79, 68, 69, 67, 79, 80, 89] }]) (xs := rowT gN11) (by rfl) 1 (by rfl) 9)
  rw [alloc_size] at C0
  refine C0.mono ?_
  clear C0
  rintro e V1 ⟨ad, cc, rfl, h1, h2⟩
  have G := Lib.hid (And.intro h1 h2)
  clear h1 h2 H
  rw [show (grp gC11 gN11 0 4 0).length = 1 from rfl]
  go_wp2_with (at_builtin; refine wpList_append_rows (l2 := gr11) (by rfl) _ _ (by rfl) (by rfl) G.out.1.rows G.out.1.below.size (by rfl) (by rfl) G.out.2 (by decide) ?_; intro v9 V2 h3 h4; have H := Lib.hid (show Al W ac12 v9 V2 from G.out.1.more h3 h4); clear h3 h4 G)
  go_wp2_with fail
  have C0 := ((H.out.alloc (.cells #[.int .i64 64] 3)).alloc (.cells #[.string { data := #[66, 76, 79, 67, 75, 72, 65, 83, 72] }] 9)).group gC12 gN12 (by decide) (by decide) (by decide) 20 1 1 ((Row.new _ (cs := #[.int .i64 64]) (xs := rowIz gC12) (by rfl) 1 (by rfl) 3).alloc _) (Row.new _ (cs := #[.string { data := #[66, 76, 79, 67, 75, 72, 65, 83, 72] }]) (xs := rowT gN12) (by rfl) 1 (by rfl) 9)
  rw [alloc_size] at C0
  refine C0.mono ?_
  clear C0
  rintro e V1 ⟨ad, cc, rfl, h1, h2⟩
  have G := Lib.hid (And.intro h1 h2)
  clear h1 h2 H
  rw [show (grp gC12 gN12 20 1 1).length = 1 from rfl]
  go_wp2_with (at_builtin; refine wpList_append_rows (l2 := gr12) (by rfl) _ _ (by rfl) (by rfl) G.out.1.rows G.out.1.below.size (by rfl) (by rfl) G.out.2 (by decide) ?_; intro v9 V2 h3 h4; have H := Lib.hid (show Al W ac13 v9 V2 from G.out.1.more h3 h4); clear h3 h4 G)
  go_wp2_with fail
  have C0 := ((H.out.alloc (.cells #[.int .i64 65, .int .i64 66, .int .i64 67, .int .i64 68, .int .i64 69, .int .i64 70, .int .i64 72, .int .i64 88, .int .i64 89, .int .i64 90, .int .i64 95] 3)).alloc (.cells #[.string { data := #[67, 79, 73, 78, 66, 65, 83, 69] }, .string { data := #[84, 73, 77, 69, 83, 84, 65, 77, 80] }, .string { data := #[78, 85, 77, 66, 69, 82] }, .string { data := #[80, 82, 69, 86, 82, 65, 78, 68, 65, 79] }, .string { data := #[71, 65, 83, 76, 73, 77, 73, 84] }, .string { data := #[67, 72, 65, 73, 78, 73, 68] }, .string { data := #[66, 65, 83, 69, 70, 69, 69] }, .string { data := #[80, 67] }, .string { data := #[77, 83, 73, 90, 69] }, .string { data := #[71, 65, 83] }, .string { data := #[80, 85, 83, 72, 48] }] 9)).group gC13 gN13 (by decide) (by decide) (by decide) 2 0 1 ((Row.new _ (cs := #[.int .i64 65, .int .i64 66, .int .i64 67, .int .i64 68, .int .i64 69, .int .i64 70, .int .i64 72, .int .i64 88, .int .i64 89, .int .i64 90, .int .i64 95]) (xs := rowIz gC13) (by rfl) 11 (by rfl) 3).alloc _) (Row.new _ (cs := #[.string { data := #[67, 79, 73, 78, 66, 65, 83, 69] }, .string { data := #[84, 73, 77, 69, 83, 84, 65, 77, 80] }, .string { data := #[78, 85, 77, 66, 69, 82] }, .string { data := #[80, 82, 69, 86, 82, 65, 78, 68, 65, 79] }, .string { data := #[71, 65, 83, 76, 73, 77, 73, 84] }, .string { data := #[67, 72, 65, 73, 78, 73, 68] }, .string { data := #[66, 65, 83, 69, 70, 69, 69] }, .string { data := #[80, 67] }, .string { data := #[77, 83, 73, 90, 69] }, .string { data := #[71, 65, 83] }, .string { data := #[80, 85, 83, 72, 48] }]) (xs := rowT gN13) (by rfl) 11 (by rfl) 9)
  rw [alloc_size] at C0
  refine C0.mono ?_
  clear C0
  rintro e V1 ⟨ad, cc, rfl, h1, h2⟩
  have G := Lib.hid (And.intro h1 h2)
  clear h1 h2 H
  rw [show (grp gC13 gN13 2 0 1).length = 11 from rfl]
  go_wp2_with (at_builtin; refine wpList_append_rows (l2 := gr13) (by rfl) _ _ (by rfl) (by rfl) G.out.1.rows G.out.1.below.size (by rfl) (by rfl) G.out.2 (by decide) ?_; intro v9 V2 h3 h4; have H := Lib.hid (show Al W ac14 v9 V2 from G.out.1.more h3 h4); clear h3 h4 G)
  go_wp2_with fail
  have C0 := ((H.out.alloc (.cells #[.int .i64 71] 3)).alloc (.cells #[.string { data := #[83, 69, 76, 70, 66, 65, 76, 65, 78, 67, 69] }] 9)).group gC14 gN14 (by decide) (by decide) (by decide) 5 0 1 ((Row.new _ (cs := #[.int .i64 71]) (xs := rowIz gC14) (by rfl) 1 (by rfl) 3).alloc _) (Row.new _ (cs := #[.string { data := #[83, 69, 76, 70, 66, 65, 76, 65, 78, 67, 69] }]) (xs := rowT gN14) (by rfl) 1 (by rfl) 9)
  rw [alloc_size] at C0
  refine C0.mono ?_
  clear C0
  rintro e V1 ⟨ad, cc, rfl, h1, h2⟩
  have G := Lib.hid (And.intro h1 h2)
  clear h1 h2 H
  rw [show (grp gC14 gN14 5 0 1).length = 1 from rfl]
  go_wp2_with (at_builtin; refine wpList_append_rows (l2 := gr14) (by rfl) _ _ (by rfl) (by rfl) G.out.1.rows G.out.1.below.size (by rfl) (by rfl) G.out.2 (by decide) ?_; intro v9 V2 h3 h4; have H := Lib.hid (show Al W ac15 v9 V2 from G.out.1.more h3 h4); clear h3 h4 G)
  go_wp2_with fail
  have C0 := ((H.out.alloc (.cells #[.int .i64 80] 3)).alloc (.cells #[.string { data := #[80, 79, 80] }] 9)).group gC15 gN15 (by decide) (by decide) (by decide) 2 1 0 ((Row.new _ (cs := #[.int .i64 80]) (xs := rowIz gC15) (by rfl) 1 (by rfl) 3).alloc _) (Row.new _ (cs := #[.string { data := #[80, 79, 80] }]) (xs := rowT gN15) (by rfl) 1 (by rfl) 9)
  rw [alloc_size] at C0
  refine C0.mono ?_
  clear C0
  rintro e V1 ⟨ad, cc, rfl, h1, h2⟩
  have G := Lib.hid (And.intro h1 h2)
  clear h1 h2 H
  rw [show (grp gC15 gN15 2 1 0).length = 1 from rfl]
  go_wp2_with (at_builtin; refine wpList_append_rows (l2 := gr15) (by rfl) _ _ (by rfl) (by rfl) G.out.1.rows G.out.1.below.size (by rfl) (by rfl) G.out.2 (by decide) ?_; intro v9 V2 h3 h4; have H := Lib.hid (show Al W ac16 v9 V2 from G.out.1.more h3 h4); clear h3 h4 G)
  go_wp2_with fail
  have C0 := ((H.out.alloc (.cells #[.int .i64 82, .int .i64 83] 3)).alloc (.cells #[.string { data := #[77, 83, 84, 79, 82, 69] }, .string { data := #[77, 83, 84, 79, 82, 69, 56] }] 9)).group gC16 gN16 (by decide) (by decide) (by decide) 3 2 0 ((Row.new _ (cs := #[.int .i64 82, .int .i64 83]) (xs := rowIz gC16) (by rfl) 2 (by rfl) 3).alloc _) (Row.new _ (cs := #[.string { data := #[77, 83, 84, 79, 82, 69] }, .string { data := #[77, 83, 84, 79, 82, 69, 56] }]) (xs := rowT gN16) (by rfl) 2 (by rfl) 9)
  rw [alloc_size] at C0
  refine C0.mono ?_
  clear C0
  rintro e V1 ⟨ad, cc, rfl, h1, h2⟩
  have G := Lib.hid (And.intro h1 h2)
  clear h1 h2 H
  rw [show (grp gC16 gN16 3 2 0).length = 2 from rfl]
  go_wp2_with (at_builtin; refine wpList_append_rows (l2 := gr16) (by rfl) _ _ (by rfl) (by rfl) G.out.1.rows G.out.1.below.size (by rfl) (by rfl) G.out.2 (by decide) ?_; intro v9 V2 h3 h4; have H := Lib.hid (show Al W ac17 v9 V2 from G.out.1.more h3 h4); clear h3 h4 G)
  go_wp2_with fail
  have C0 := ((H.out.alloc (.cells #[.int .i64 85, .int .i64 243, .int .i64 253] 3)).alloc (.cells #[.string { data := #[83, 83, 84, 79, 82, 69] }, .string { data := #[82, 69, 84, 85, 82, 78] }, .string { data := #[82, 69, 86, 69, 82, 84] }] 9)).group gC17 gN17 (by decide) (by decide) (by decide) 0 2 0 ((Row.new _ (cs := #[.int .i64 85, .int .i64 243, .int .i64 253]) (xs := rowIz gC17) (by rfl) 3 (by rfl) 3).alloc _) (Row.new _ (cs := #[.string { data := #[83, 83, 84, 79, 82, 69] }, .string { data := #[82, 69, 84, 85, 82, 78] }, .string { data := #[82, 69, 86, 69, 82, 84] }]) (xs := rowT gN17) (by rfl) 3 (by rfl) 9)
  rw [alloc_size] at C0
  refine C0.mono ?_
  clear C0
  rintro e V1 ⟨ad, cc, rfl, h1, h2⟩
  have G := Lib.hid (And.intro h1 h2)
  clear h1 h2 H
  rw [show (grp gC17 gN17 0 2 0).length = 3 from rfl]
  go_wp2_with (at_builtin; refine wpList_append_rows (l2 := gr17) (by rfl) _ _ (by rfl) (by rfl) G.out.1.rows G.out.1.below.size (by rfl) (by rfl) G.out.2 (by decide) ?_; intro v9 V2 h3 h4; have H := Lib.hid (show Al W ac18 v9 V2 from G.out.1.more h3 h4); clear h3 h4 G)
  go_wp2_with fail
  have C0 := ((H.out.alloc (.cells #[.int .i64 86] 3)).alloc (.cells #[.string { data := #[74, 85, 77, 80] }] 9)).group gC18 gN18 (by decide) (by decide) (by decide) 8 1 0 ((Row.new _ (cs := #[.int .i64 86]) (xs := rowIz gC18) (by rfl) 1 (by rfl) 3).alloc _) (Row.new _ (cs := #[.string { data := #[74, 85, 77, 80] }]) (xs := rowT gN18) (by rfl) 1 (by rfl) 9)
  rw [alloc_size] at C0
  refine C0.mono ?_
  clear C0
  rintro e V1 ⟨ad, cc, rfl, h1, h2⟩
  have G := Lib.hid (And.intro h1 h2)
  clear h1 h2 H
  rw [show (grp gC18 gN18 8 1 0).length = 1 from rfl]
  go_wp2_with (at_builtin; refine wpList_append_rows (l2 := gr18) (by rfl) _ _ (by rfl) (by rfl) G.out.1.rows G.out.1.below.size (by rfl) (by rfl) G.out.2 (by decide) ?_; intro v9 V2 h3 h4; have H := Lib.hid (show Al W ac19 v9 V2 from G.out.1.more h3 h4); clear h3 h4 G)
  go_wp2_with fail
  have C0 := ((H.out.alloc (.cells #[.int .i64 87] 3)).alloc (.cells #[.string { data := #[74, 85, 77, 80, 73] }] 9)).group gC19 gN19 (by decide) (by decide) (by decide) 10 2 0 ((Row.new _ (cs := #[.int .i64 87]) (xs := rowIz gC19) (by rfl) 1 (by rfl) 3).alloc _) (Row.new _ (cs := #[.string { data := #[74, 85, 77, 80, 73] }]) (xs := rowT gN19) (by rfl) 1 (by rfl) 9)
  rw [alloc_size] at C0
  refine C0.mono ?_
  clear C0
  rintro e V1 ⟨ad, cc, rfl, h1, h2⟩
  have G := Lib.hid (And.intro h1 h2)
  clear h1 h2 H
  rw [show (grp gC19 gN19 10 2 0).length = 1 from rfl]
  go_wp2_with (at_builtin; refine wpList_append_rows (l2 := gr19) (by rfl) _ _ (by rfl) (by rfl) G.out.1.rows G.out.1.below.size (by rfl) (by rfl) G.out.2 (by decide) ?_; intro v9 V2 h3 h4; have H := Lib.hid (show Al W ac20 v9 V2 from G.out.1.more h3 h4); clear h3 h4 G)
  go_wp2_with fail
  have C0 := ((H.out.alloc (.cells #[.int .i64 91] 3)).alloc (.cells #[.string { data := #[74, 85, 77, 80, 68, 69, 83, 84] }] 9)).group gC20 gN20 (by decide) (by decide) (by decide) 1 0 0 ((Row.new _ (cs := #[.int .i64 91]) (xs := rowIz gC20) (by rfl) 1 (by rfl) 3).alloc _) (Row.new _ (cs := #[.string { data := #[74, 85, 77, 80, 68, 69, 83, 84] }]) (xs := rowT gN20) (by rfl) 1 (by rfl) 9)
  rw [alloc_size] at C0
  refine C0.mono ?_
  clear C0
  rintro e V1 ⟨ad, cc, rfl, h1, h2⟩
  have G := Lib.hid (And.intro h1 h2)
  clear h1 h2 H
  rw [show (grp gC20 gN20 1 0 0).length = 1 from rfl]
  go_wp2_with (at_builtin; refine wpList_append_rows (l2 := gr20) (by rfl) _ _ (by rfl) (by rfl) G.out.1.rows G.out.1.below.size (by rfl) (by rfl) G.out.2 (by decide) ?_; intro v9 V2 h3 h4; have H := Lib.hid (show Al W ac21 v9 V2 from G.out.1.more h3 h4); clear h3 h4 G)
  have AL := Lib.hid (show ac21.length ≤ 200 by decide)
  go_loopw [1, 2] (fun lv nv wr => ∃ n : Nat, n ≤ 32 ∧ nv = .int .i64 ((n : Int) + 1) ∧ Al W (ac21 ++ pushL n) lv wr) (fun _ nv _ => 33 - (intOf nv).toNat)
  case atStart => exact ⟨0, Nat.zero_le _, by rfl, by rw [show pushL 0 = [] from rfl, List.append_nil]; exact H.out⟩
  case round =>
    clear H
    obtain ⟨n, hn, rfl, h⟩ := hrel
    have HX := Lib.hid h
    clear h
    by_cases hlt : n < 32
    · have hlt2 : (n : Int) < 32 := by omega
      have D := Lib.hid (fun V => rdigits_c (n := (n + 1)) (by omega) V)
      rw [show ((n + 1 : Nat) : Int) = (n : Int) + 1 from by omega] at D
      have hz : (str (dec (n + 1))).size ≤ 2 := dec_size _
      have hs : ({ data := #[80, 85, 83, 72] } : ByteArray) ++ str (dec (n + 1)) = str ([80, 85, 83, 72] ++ dec (n + 1)) := str_app _ _
      generalize str (dec (n + 1)) = s1 at D hs hz
      generalize hS : str ([80, 85, 83, 72] ++ dec (n + 1)) = s2 at hs
      have HS := Lib.hid hS
      clear hS
      go_wp2_with fail
      have R1 := Lib.hid (Row.new wr (cs := #[.int .i64 (95 + ((n : Int) + 1))]) (xs := rowIz [95 + ((n : Int) + 1)]) (by rfl) 1 (by rfl) 3)
      have X1 := Lib.hid (HX.out.alloc (.cells #[.int .i64 (95 + ((n : Int) + 1))] 3))
      generalize World.alloc wr _ = V0 at *
      generalize wr.heap.size = q at *
      refine (D.out _).mono ?_
      rintro e V1 ⟨rfl, h9⟩
      have X2 := Lib.hid (And.intro (X1.out.call h9) (R1.out.call h9))
      clear h9 X1 R1 D HX
      go_wp2_with fail
      have C0 := (X2.out.1.alloc (.cells #[.string s2] 9)).group [95 + ((n : Int) + 1)] [[80, 85, 83, 72] ++ dec (n + 1)] (by rfl) (by show (1 : Nat) ≤ 20; omega) (by simp) 3 (0) (1) (X2.out.2.alloc _) (Row.new V1 (cs := #[.string s2]) (xs := rowT [[80, 85, 83, 72] ++ dec (n + 1)]) (by rw [← HS.out]; rfl) 1 (by rfl) 9)
      refine C0.mono ?_
      clear C0
      rintro e V2 ⟨ad, cc, rfl, h1, h2⟩
      have G := Lib.hid (And.intro h1 h2)
      clear h1 h2 X2 hz hs HS
      rw [show (grp [95 + ((n : Int) + 1)] [[80, 85, 83, 72] ++ dec (n + 1)] 3 (0) (1)).length = 1 from rfl]
      go_wp2_with (at_builtin; refine wpList_append_rows (l2 := grp [95 + ((n : Int) + 1)] [[80, 85, 83, 72] ++ dec (n + 1)] 3 (0) (1)) (by rfl) _ _ (by rfl) (by rfl) G.out.1.rows G.out.1.below.size (by rfl) (by rfl) G.out.2 (by rw [List.length_append, pushL_len]; have := AL.out; show _ + _ + 1 < _; omega) ?_; intro v9 V3 h3 h4; have HQ := Lib.hid (G.out.1.more h3 h4); clear h3 h4 G)
      have HF := Lib.hid (show Al W (ac21 ++ pushL (n + 1)) v9 V3 by have h := HQ.out; rw [List.append_assoc] at h; rw [show pushL (n + 1) = _ from flat_succ n _]; exact h)
      clear HQ
      go_roundw
      case rel => exact ⟨n + 1, by omega, by first | rfl | go_num, HF.out⟩
      case measure => simp [intOf]; omega
    · obtain rfl : n = 32 := by omega
      have H := HX
      clear HX
      go_wp2_with fail
      try rw [show ((32 : Nat) : Int) + 1 = 33 from rfl]
      go_loopw [1, 3] (fun lv nv wr => ∃ n : Nat, n ≤ 16 ∧ nv = .int .i64 ((n : Int) + 1) ∧ Al W ((ac21 ++ pushL 32) ++ dupL n) lv wr) (fun _ nv _ => 17 - (intOf nv).toNat)
      case atStart => exact ⟨0, Nat.zero_le _, by rfl, by rw [show dupL 0 = [] from rfl, List.append_nil]; exact H.out⟩
      case round =>
        clear H
        obtain ⟨n, hn, rfl, h⟩ := hrel
        have HX := Lib.hid h
        clear h
        by_cases hlt : n < 16
        · have hlt2 : (n : Int) < 16 := by omega
          have D := Lib.hid (fun V => rdigits_c (n := (n + 1)) (by omega) V)
          rw [show ((n + 1 : Nat) : Int) = (n : Int) + 1 from by omega] at D
          have hz : (str (dec (n + 1))).size ≤ 2 := dec_size _
          have hs : ({ data := #[68, 85, 80] } : ByteArray) ++ str (dec (n + 1)) = str ([68, 85, 80] ++ dec (n + 1)) := str_app _ _
          generalize str (dec (n + 1)) = s1 at D hs hz
          generalize hS : str ([68, 85, 80] ++ dec (n + 1)) = s2 at hs
          have HS := Lib.hid hS
          clear hS
          go_wp2_with fail
          have R1 := Lib.hid (Row.new wr (cs := #[.int .i64 (127 + ((n : Int) + 1))]) (xs := rowIz [127 + ((n : Int) + 1)]) (by rfl) 1 (by rfl) 3)
          have X1 := Lib.hid (HX.out.alloc (.cells #[.int .i64 (127 + ((n : Int) + 1))] 3))
          generalize World.alloc wr _ = V0 at *
          generalize wr.heap.size = q at *
          refine (D.out _).mono ?_
          rintro e V1 ⟨rfl, h9⟩
          have X2 := Lib.hid (And.intro (X1.out.call h9) (R1.out.call h9))
          clear h9 X1 R1 D HX
          go_wp2_with fail
          have C0 := (X2.out.1.alloc (.cells #[.string s2] 9)).group [127 + ((n : Int) + 1)] [[68, 85, 80] ++ dec (n + 1)] (by rfl) (by show (1 : Nat) ≤ 20; omega) (by simp) 3 ((n : Int) + 1) ((n : Int) + 1 + 1) (X2.out.2.alloc _) (Row.new V1 (cs := #[.string s2]) (xs := rowT [[68, 85, 80] ++ dec (n + 1)]) (by rw [← HS.out]; rfl) 1 (by rfl) 9)
          refine C0.mono ?_
          clear C0
          rintro e V2 ⟨ad, cc, rfl, h1, h2⟩
          have G := Lib.hid (And.intro h1 h2)
          clear h1 h2 X2 hz hs HS
          rw [show (grp [127 + ((n : Int) + 1)] [[68, 85, 80] ++ dec (n + 1)] 3 ((n : Int) + 1) ((n : Int) + 1 + 1)).length = 1 from rfl]
          go_wp2_with (at_builtin; refine wpList_append_rows (l2 := grp [127 + ((n : Int) + 1)] [[68, 85, 80] ++ dec (n + 1)] 3 ((n : Int) + 1) ((n : Int) + 1 + 1)) (by rfl) _ _ (by rfl) (by rfl) G.out.1.rows G.out.1.below.size (by rfl) (by rfl) G.out.2 (by rw [List.length_append, List.length_append, dupL_len, pushL_len]; have := AL.out; show _ + _ + _ + 1 < _; omega) ?_; intro v9 V3 h3 h4; have HY := Lib.hid (G.out.1.more h3 h4); clear h3 h4 G)
          obtain ⟨vx, hvx⟩ : ∃ vx, vx = v9 := ⟨_, rfl⟩
          subst hvx
          have D := Lib.hid (fun V => rdigits_c (n := (n + 1)) (by omega) V)
          rw [show ((n + 1 : Nat) : Int) = (n : Int) + 1 from by omega] at D
          have hz : (str (dec (n + 1))).size ≤ 2 := dec_size _
          have hs : ({ data := #[83, 87, 65, 80] } : ByteArray) ++ str (dec (n + 1)) = str ([83, 87, 65, 80] ++ dec (n + 1)) := str_app _ _
          generalize str (dec (n + 1)) = s1 at D hs hz
          generalize hS : str ([83, 87, 65, 80] ++ dec (n + 1)) = s2 at hs
          have HS := Lib.hid hS
          clear hS
          go_wp2_with fail
          have R1 := Lib.hid (Row.new V3 (cs := #[.int .i64 (143 + ((n : Int) + 1))]) (xs := rowIz [143 + ((n : Int) + 1)]) (by rfl) 1 (by rfl) 3)
          have X1 := Lib.hid (HY.out.alloc (.cells #[.int .i64 (143 + ((n : Int) + 1))] 3))
          generalize World.alloc V3 _ = V0 at *
          generalize V3.heap.size = q at *
          refine (D.out _).mono ?_
          rintro e V1 ⟨rfl, h9⟩
          have X2 := Lib.hid (And.intro (X1.out.call h9) (R1.out.call h9))
          clear h9 X1 R1 D HY
          go_wp2_with fail
          have C0 := (X2.out.1.alloc (.cells #[.string s2] 9)).group [143 + ((n : Int) + 1)] [[83, 87, 65, 80] ++ dec (n + 1)] (by rfl) (by show (1 : Nat) ≤ 20; omega) (by simp) 3 ((n : Int) + 1 + 1) ((n : Int) + 1 + 1) (X2.out.2.alloc _) (Row.new V1 (cs := #[.string s2]) (xs := rowT [[83, 87, 65, 80] ++ dec (n + 1)]) (by rw [← HS.out]; rfl) 1 (by rfl) 9)
          refine C0.mono ?_
          clear C0
          rintro e V2 ⟨ad, cc, rfl, h1, h2⟩
          have G := Lib.hid (And.intro h1 h2)
          clear h1 h2 X2 hz hs HS
          rw [show (grp [143 + ((n : Int) + 1)] [[83, 87, 65, 80] ++ dec (n + 1)] 3 ((n : Int) + 1 + 1) ((n : Int) + 1 + 1)).length = 1 from rfl]
          go_wp2_with (at_builtin; refine wpList_append_rows (l2 := grp [143 + ((n : Int) + 1)] [[83, 87, 65, 80] ++ dec (n + 1)] 3 ((n : Int) + 1 + 1) ((n : Int) + 1 + 1)) (by rfl) _ _ (by rfl) (by rfl) G.out.1.rows G.out.1.below.size (by rfl) (by rfl) G.out.2 (by rw [List.length_append, List.length_append, List.length_append, dupL_len, pushL_len]; have := AL.out; show _ + _ + _ + 1 + 1 < _; omega) ?_; intro v9 V3 h3 h4; have HQ := Lib.hid (G.out.1.more h3 h4); clear h3 h4 G)
          have HF := Lib.hid (show Al W ((ac21 ++ pushL 32) ++ dupL (n + 1)) v9 V3 by have h := HQ.out; rw [List.append_assoc, List.append_assoc] at h; rw [show dupL (n + 1) = _ from flat_succ n _]; exact h)
          clear HQ
          go_roundw
          case rel => exact ⟨n + 1, by omega, by first | rfl | go_num, HF.out⟩
          case measure => simp [intOf]; omega
        · obtain rfl : n = 16 := by omega
          have H := HX
          clear HX
          go_wp2_with fail
          try rw [show ((16 : Nat) : Int) + 1 = 17 from rfl]
          go_loopw [1, 4] (fun lv nv wr => ∃ n : Nat, n ≤ 5 ∧ nv = .int .i64 ((n : Int)) ∧ Al W ((ac21 ++ pushL 32 ++ dupL 16) ++ logL n) lv wr) (fun _ nv _ => 6 - (intOf nv).toNat)
          case atStart => exact ⟨0, Nat.zero_le _, by rfl, by rw [show logL 0 = [] from rfl, List.append_nil]; exact H.out⟩
          case round =>
            clear H
            obtain ⟨n, hn, rfl, h⟩ := hrel
            have HX := Lib.hid h
            clear h
            by_cases hlt : n < 5
            · have hlt2 : (n : Int) < 5 := by omega
              have D := Lib.hid (fun V => rdigits_c (n := n) (by omega) V)
              have hz : (str (dec n)).size ≤ 2 := dec_size _
              have hs : ({ data := #[76, 79, 71] } : ByteArray) ++ str (dec n) = str ([76, 79, 71] ++ dec n) := str_app _ _
              generalize str (dec n) = s1 at D hs hz
              generalize hS : str ([76, 79, 71] ++ dec n) = s2 at hs
              have HS := Lib.hid hS
              clear hS
              go_wp2_with fail
              have R1 := Lib.hid (Row.new wr (cs := #[.int .i64 (160 + (n : Int))]) (xs := rowIz [160 + (n : Int)]) (by rfl) 1 (by rfl) 3)
              have X1 := Lib.hid (HX.out.alloc (.cells #[.int .i64 (160 + (n : Int))] 3))
              generalize World.alloc wr _ = V0 at *
              generalize wr.heap.size = q at *
              refine (D.out _).mono ?_
              rintro e V1 ⟨rfl, h9⟩
              have X2 := Lib.hid (And.intro (X1.out.call h9) (R1.out.call h9))
              clear h9 X1 R1 D HX
              go_wp2_with fail
              have C0 := (X2.out.1.alloc (.cells #[.string s2] 9)).group [160 + (n : Int)] [[76, 79, 71] ++ dec n] (by rfl) (by show (1 : Nat) ≤ 20; omega) (by simp) 375 ((n : Int) + 2) (0) (X2.out.2.alloc _) (Row.new V1 (cs := #[.string s2]) (xs := rowT [[76, 79, 71] ++ dec n]) (by rw [← HS.out]; rfl) 1 (by rfl) 9)
              refine C0.mono ?_
              clear C0
              rintro e V2 ⟨ad, cc, rfl, h1, h2⟩
              have G := Lib.hid (And.intro h1 h2)
              clear h1 h2 X2 hz hs HS
              rw [show (grp [160 + (n : Int)] [[76, 79, 71] ++ dec n] 375 ((n : Int) + 2) (0)).length = 1 from rfl]
              go_wp2_with (at_builtin; refine wpList_append_rows (l2 := grp [160 + (n : Int)] [[76, 79, 71] ++ dec n] 375 ((n : Int) + 2) (0)) (by rfl) _ _ (by rfl) (by rfl) G.out.1.rows G.out.1.below.size (by rfl) (by rfl) G.out.2 (by rw [List.length_append, List.length_append, List.length_append, logL_len, dupL_len, pushL_len]; have := AL.out; show _ + _ + _ + _ + 1 < _; omega) ?_; intro v9 V3 h3 h4; have HQ := Lib.hid (G.out.1.more h3 h4); clear h3 h4 G)
              have HF := Lib.hid (show Al W ((ac21 ++ pushL 32 ++ dupL 16) ++ logL (n + 1)) v9 V3 by have h := HQ.out; rw [List.append_assoc] at h; rw [show logL (n + 1) = _ from flat_succ n _]; exact h)
              clear HQ
              go_roundw
              case rel => exact ⟨n + 1, by omega, by first | rfl | go_num, HF.out⟩
              case measure => simp [intOf]; omega
            · obtain rfl : n = 5 := by omega
              have H := HX
              clear HX
              go_wp2_with fail
              try rw [show ((5 : Nat) : Int) + 1 = 6 from rfl]
              go_wp2_with fail
              have C0 := ((H.out.alloc (.cells #[.int .i64 240] 3)).alloc (.cells #[.string { data := #[67, 82, 69, 65, 84, 69] }] 9)).group gC21 gN21 (by decide) (by decide) (by decide) 32000 3 1 ((Row.new _ (cs := #[.int .i64 240]) (xs := rowIz gC21) (by rfl) 1 (by rfl) 3).alloc _) (Row.new _ (cs := #[.string { data := #[67, 82, 69, 65, 84, 69] }]) (xs := rowT gN21) (by rfl) 1 (by rfl) 9)
              rw [alloc_size] at C0
              refine C0.mono ?_
              clear C0
              rintro e V1 ⟨ad, cc, rfl, h1, h2⟩
              have G := Lib.hid (And.intro h1 h2)
              clear h1 h2 H
              rw [show (grp gC21 gN21 32000 3 1).length = 1 from rfl]
              go_wp2_with (at_builtin; refine wpList_append_rows (l2 := gr21) (by rfl) _ _ (by rfl) (by rfl) G.out.1.rows G.out.1.below.size (by rfl) (by rfl) G.out.2 (by decide) ?_; intro v9 V2 h3 h4; have H := Lib.hid (show Al W bc1 v9 V2 from G.out.1.more h3 h4); clear h3 h4 G)
              go_wp2_with fail
              have C0 := ((H.out.alloc (.cells #[.int .i64 245] 3)).alloc (.cells #[.string { data := #[67, 82, 69, 65, 84, 69, 50] }] 9)).group gC22 gN22 (by decide) (by decide) (by decide) 32000 4 1 ((Row.new _ (cs := #[.int .i64 245]) (xs := rowIz gC22) (by rfl) 1 (by rfl) 3).alloc _) (Row.new _ (cs := #[.string { data := #[67, 82, 69, 65, 84, 69, 50] }]) (xs := rowT gN22) (by rfl) 1 (by rfl) 9)
              rw [alloc_size] at C0
              refine C0.mono ?_
              clear C0
              rintro e V1 ⟨ad, cc, rfl, h1, h2⟩
              have G := Lib.hid (And.intro h1 h2)
              clear h1 h2 H
              rw [show (grp gC22 gN22 32000 4 1).length = 1 from rfl]
              go_wp2_with (at_builtin; refine wpList_append_rows (l2 := gr22) (by rfl) _ _ (by rfl) (by rfl) G.out.1.rows G.out.1.below.size (by rfl) (by rfl) G.out.2 (by decide) ?_; intro v9 V2 h3 h4; have H := Lib.hid (show Al W bc2 v9 V2 from G.out.1.more h3 h4); clear h3 h4 G)
              go_wp2_with fail
              have C0 := ((H.out.alloc (.cells #[.int .i64 241, .int .i64 242] 3)).alloc (.cells #[.string { data := #[67, 65, 76, 76] }, .string { data := #[67, 65, 76, 76, 67, 79, 68, 69] }] 9)).group gC23 gN23 (by decide) (by decide) (by decide) 0 7 1 ((Row.new _ (cs := #[.int .i64 241, .int .i64 242]) (xs := rowIz gC23) (by rfl) 2 (by rfl) 3).alloc _) (Row.new _ (cs := #[.string { data := #[67, 65, 76, 76] }, .string { data := #[67, 65, 76, 76, 67, 79, 68, 69] }]) (xs := rowT gN23) (by rfl) 2 (by rfl) 9)
              rw [alloc_size] at C0
              refine C0.mono ?_
              clear C0
              rintro e V1 ⟨ad, cc, rfl, h1, h2⟩
              have G := Lib.hid (And.intro h1 h2)
              clear h1 h2 H
              rw [show (grp gC23 gN23 0 7 1).length = 2 from rfl]
              go_wp2_with (at_builtin; refine wpList_append_rows (l2 := gr23) (by rfl) _ _ (by rfl) (by rfl) G.out.1.rows G.out.1.below.size (by rfl) (by rfl) G.out.2 (by decide) ?_; intro v9 V2 h3 h4; have H := Lib.hid (show Al W bc3 v9 V2 from G.out.1.more h3 h4); clear h3 h4 G)
              go_wp2_with fail
              have C0 := ((H.out.alloc (.cells #[.int .i64 244, .int .i64 250] 3)).alloc (.cells #[.string { data := #[68, 69, 76, 69, 71, 65, 84, 69, 67, 65, 76, 76] }, .string { data := #[83, 84, 65, 84, 73, 67, 67, 65, 76, 76] }] 9)).group gC24 gN24 (by decide) (by decide) (by decide) 0 6 1 ((Row.new _ (cs := #[.int .i64 244, .int .i64 250]) (xs := rowIz gC24) (by rfl) 2 (by rfl) 3).alloc _) (Row.new _ (cs := #[.string { data := #[68, 69, 76, 69, 71, 65, 84, 69, 67, 65, 76, 76] }, .string { data := #[83, 84, 65, 84, 73, 67, 67, 65, 76, 76] }]) (xs := rowT gN24) (by rfl) 2 (by rfl) 9)
              rw [alloc_size] at C0
              refine C0.mono ?_
              clear C0
              rintro e V1 ⟨ad, cc, rfl, h1, h2⟩
              have G := Lib.hid (And.intro h1 h2)
              clear h1 h2 H
              rw [show (grp gC24 gN24 0 6 1).length = 2 from rfl]
              go_wp2_with (at_builtin; refine wpList_append_rows (l2 := gr24) (by rfl) _ _ (by rfl) (by rfl) G.out.1.rows G.out.1.below.size (by rfl) (by rfl) G.out.2 (by decide) ?_; intro v9 V2 h3 h4; have H := Lib.hid (show Al W bc4 v9 V2 from G.out.1.more h3 h4); clear h3 h4 G)
              go_wp2_with fail
              have C0 := ((H.out.alloc (.cells #[.int .i64 255] 3)).alloc (.cells #[.string { data := #[83, 69, 76, 70, 68, 69, 83, 84, 82, 85, 67, 84] }] 9)).group gC25 gN25 (by decide) (by decide) (by decide) 5000 1 0 ((Row.new _ (cs := #[.int .i64 255]) (xs := rowIz gC25) (by rfl) 1 (by rfl) 3).alloc _) (Row.new _ (cs := #[.string { data := #[83, 69, 76, 70, 68, 69, 83, 84, 82, 85, 67, 84] }]) (xs := rowT gN25) (by rfl) 1 (by rfl) 9)
              rw [alloc_size] at C0
              refine C0.mono ?_
              clear C0
              rintro e V1 ⟨ad, cc, rfl, h1, h2⟩
              have G := Lib.hid (And.intro h1 h2)
              clear h1 h2 H
              rw [show (grp gC25 gN25 5000 1 0).length = 1 from rfl]
              go_wp2_with (at_builtin; refine wpList_append_rows (l2 := gr25) (by rfl) _ _ (by rfl) (by rfl) G.out.1.rows G.out.1.below.size (by rfl) (by rfl) G.out.2 (by decide) ?_; intro v9 V2 h3 h4; have H := Lib.hid (show Al W bc5 v9 V2 from G.out.1.more h3 h4); clear h3 h4 G)
              go_ret
              exact ⟨_, rfl, H.out⟩
end Go.Proofs.YtfcmcccfclaefaaDoor
