/- How much stands ahead. -/
import Derived.Test.YtlgmdfeajmafoaaLy
namespace Go.Proofs.Ytlgmdfeajmafoaa
open Go.RowKit

def encB (s : List UInt8) : List UInt8 := (It.list (.text s .nil)).enc
theorem encA_c (s : List UInt8) (hB : (encB s).length ≤ 1000) (w : World) : Calls Try.prog 15 #[.agg #[.bool false, .string (str s), .slice none 0 0]] w fun e w' => e = .returned (.string (str (encT s))) ∧ Below w.heap.size w w' := by
  have hb : (encT s).length ≤ (encB s).length := by simp [encB, It.enc, Fo.enc]
  exact encode_c (fun _ => False) (.text s) _ w (fun _ h => h.elim) rfl (by simp [It.evs]) (by show (encT s).length ≤ _; omega)
theorem encL_c (s : List UInt8) (hB : (encB s).length ≤ 1000) (u : Value) (w : World) (hu : ItV (fun k => k < w.heap.size) (.list (.text s .nil)) u w) : Calls Try.prog 15 #[u] w fun e w' => e = .returned (.string (str (encB s))) ∧ Below w.heap.size w w' :=
  encode_c _ (.list (.text s .nil)) u w (fun _ h => h) hu (by simp [It.evs, Fo.evs]) (by show (encB s).length ≤ _; omega)
theorem listA_c (s : List UInt8) (W : World) : Calls Try.prog 24 #[.slice (some ⟨W.heap.size, 0, none⟩) 1 1] (W.alloc (.cells #[.bool false, .string (str s), .slice none 0 0] 27)) fun e w' => ∃ u, e = .returned u ∧ ItV (fun k => k < w'.heap.size) (.list (.text s .nil)) u w' ∧ Below (W.alloc (.cells #[.bool false, .string (str s), .slice none 0 0] 27)).heap.size (W.alloc (.cells #[.bool false, .string (str s), .slice none 0 0] 27)) w' :=
  list_c (fun k => k = W.heap.size) (.text s .nil) (.slice (some ⟨W.heap.size, 0, none⟩) 1 1) _ (Or.inr ⟨W.heap.size, 0, 1, rfl, rfl, Nat.le_refl _, ⟨cell_of (heap_alloc_new W _) 0, cell_of (heap_alloc_new W _) 1, cell_of (heap_alloc_new W _) 2⟩, trivial⟩) (fun k hk => by simp only [alloc_size]; omega) (by simp [Fo.siz])
set_option maxRecDepth 100000 in
set_option maxHeartbeats 4000000 in
theorem short1 (l s : List UInt8) (hsl : ∀ W, (Instr.slice 9 (.string (str l)) none (some (.int .i64 (min (((str l).size : Nat) : Int) 400))) none).run Try.prog W = .ok (.string (str s)) W) (HA : (encB s).length ≤ 1000)
    (_c1 : (str s).size = 1) (z : Nat) (_hz : (z : Int) < 128) (_hi : ∀ W, (Instr.index 9 (.string (str s)) (.int .i64 0)).run Try.prog W = .ok (.int .u8 (z : Nat)) W) (_a55 : ¬ (55 : Int) < ((str (encT s)).size : Int)) (_a255 : ¬ (255 : Int) < ((str (encT s)).size : Int)) (_e1 : ((((str (encT s)).size : Int) == 1) = true)) (_e2 : ((((str (encB s)).size : Int) == ((str (encT s)).size : Int) + 1) = true)) (_s1 : ∀ W, (Instr.slice 9 (.string (str (encT s))) (some (.int .i64 0)) none none).run Try.prog W = .ok (.string (str s)) W) (_s2 : ∀ W, (Instr.slice 9 (.string (str (encB s))) (some (.int .i64 1)) none none).run Try.prog W = .ok (.string (str (encT s))) W) (_nn : ((str s).size : Int) ≤ 400) (_na : ((str (encT s)).size : Int) ≤ 403) (w : World) : Calls Try.prog 9 #[.string (str l)] w fun e w' => e = .returned (.bool true) ∧ Below w.heap.size w w' := by
  have HB := Lib.hid (And.intro trivial HA)
  have q1 : ((str s).toList == (str s).toList) = true := by simp
  have q2 : ((str (encT s)).toList == (str (encT s)).toList) = true := by simp
  clear HA
  go_enter Try.func9, Try.ntmps9
  go_wp2_with fail
  go_at_call 10
  refine (examples_c _).mono ?_
  rintro e W1 ⟨rfl, hb⟩
  have B1 := Lib.hid hb
  clear hb
  go_wp2_with fail
  go_at_call 23
  refine (textA_c _ _).mono ?_
  rintro e W2 ⟨rfl, hb⟩
  have B2 := Lib.hid (bel_then B1.out hb)
  have HE := Lib.hid (encA_c s HB.out.2 W2)
  clear hb B1
  go_wp2_with fail
  go_at_call 15
  refine HE.out.mono ?_
  rintro e W3 ⟨rfl, hb⟩
  have B3 := Lib.hid (bel_then B2.out hb)
  clear hb B2 HE
  go_wp2_with fail
  go_at_call 23
  refine (textA_c _ _).mono ?_
  rintro e W4 ⟨rfl, hb⟩
  have B4 := Lib.hid (bel_then (bel_then B3.out hb) (bel_al W4 (.cells #[.bool false, .string (str s), .slice none 0 0] 27)))
  have HL := Lib.hid (listA_c s W4)
  clear hb B3
  go_wp2_with fail
  go_at_call 24
  refine HL.out.mono ?_
  rintro e W5 ⟨u, rfl, hu, hb⟩
  have B5 := Lib.hid (bel_then B4.out hb)
  have HE := Lib.hid (encL_c s HB.out.2 u W5 hu)
  clear hb B4 HL hu
  go_wp2_with fail
  go_at_call 15
  refine HE.out.mono ?_
  rintro e W6 ⟨rfl, hb⟩
  have B6 := Lib.hid (bel_then B5.out hb)
  clear hb B5 HE
  go_wp2_with fail
  go_ret
  exact ⟨rfl, B6.out⟩
set_option maxRecDepth 100000 in
set_option maxHeartbeats 4000000 in
theorem short2 (l s : List UInt8) (hsl : ∀ W, (Instr.slice 9 (.string (str l)) none (some (.int .i64 (min (((str l).size : Nat) : Int) 400))) none).run Try.prog W = .ok (.string (str s)) W) (HA : (encB s).length ≤ 1000)
    (_c1 : (str s).size = 1) (z : Nat) (_hz : ¬ (z : Int) < 128) (_hi : ∀ W, (Instr.index 9 (.string (str s)) (.int .i64 0)).run Try.prog W = .ok (.int .u8 (z : Nat)) W) (_a55 : ¬ (55 : Int) < ((str (encT s)).size : Int)) (_a255 : ¬ (255 : Int) < ((str (encT s)).size : Int)) (_e1 : ((((str (encT s)).size : Int) == 2) = true)) (_e2 : ((((str (encB s)).size : Int) == ((str (encT s)).size : Int) + 1) = true)) (_s1 : ∀ W, (Instr.slice 9 (.string (str (encT s))) (some (.int .i64 1)) none none).run Try.prog W = .ok (.string (str s)) W) (_s2 : ∀ W, (Instr.slice 9 (.string (str (encB s))) (some (.int .i64 1)) none none).run Try.prog W = .ok (.string (str (encT s))) W) (_nn : ((str s).size : Int) ≤ 400) (_na : ((str (encT s)).size : Int) ≤ 403) (w : World) : Calls Try.prog 9 #[.string (str l)] w fun e w' => e = .returned (.bool true) ∧ Below w.heap.size w w' := by
  have HB := Lib.hid (And.intro trivial HA)
  have q1 : ((str s).toList == (str s).toList) = true := by simp
  have q2 : ((str (encT s)).toList == (str (encT s)).toList) = true := by simp
  clear HA
  go_enter Try.func9, Try.ntmps9
  go_wp2_with fail
  go_at_call 10
  refine (examples_c _).mono ?_
  rintro e W1 ⟨rfl, hb⟩
  have B1 := Lib.hid hb
  clear hb
  go_wp2_with fail
  go_at_call 23
  refine (textA_c _ _).mono ?_
  rintro e W2 ⟨rfl, hb⟩
  have B2 := Lib.hid (bel_then B1.out hb)
  have HE := Lib.hid (encA_c s HB.out.2 W2)
  clear hb B1
  go_wp2_with fail
  go_at_call 15
  refine HE.out.mono ?_
  rintro e W3 ⟨rfl, hb⟩
  have B3 := Lib.hid (bel_then B2.out hb)
  clear hb B2 HE
  go_wp2_with fail
  go_at_call 23
  refine (textA_c _ _).mono ?_
  rintro e W4 ⟨rfl, hb⟩
  have B4 := Lib.hid (bel_then (bel_then B3.out hb) (bel_al W4 (.cells #[.bool false, .string (str s), .slice none 0 0] 27)))
  have HL := Lib.hid (listA_c s W4)
  clear hb B3
  go_wp2_with fail
  go_at_call 24
  refine HL.out.mono ?_
  rintro e W5 ⟨u, rfl, hu, hb⟩
  have B5 := Lib.hid (bel_then B4.out hb)
  have HE := Lib.hid (encL_c s HB.out.2 u W5 hu)
  clear hb B4 HL hu
  go_wp2_with fail
  go_at_call 15
  refine HE.out.mono ?_
  rintro e W6 ⟨rfl, hb⟩
  have B6 := Lib.hid (bel_then B5.out hb)
  clear hb B5 HE
  go_wp2_with fail
  go_ret
  exact ⟨rfl, B6.out⟩
set_option maxRecDepth 100000 in
set_option maxHeartbeats 4000000 in
theorem short3 (l s : List UInt8) (hsl : ∀ W, (Instr.slice 9 (.string (str l)) none (some (.int .i64 (min (((str l).size : Nat) : Int) 400))) none).run Try.prog W = .ok (.string (str s)) W) (HA : (encB s).length ≤ 1000)
    (_c55 : ¬ (55 : Int) < ((str s).size : Int)) (_c255 : ¬ (255 : Int) < ((str s).size : Int)) (_c1 : ¬ ((str s).size : Int) = 1) (_c1' : (((str s).size : Int) == 1) = false) (_a55 : ¬ (55 : Int) < ((str (encT s)).size : Int)) (_a255 : ¬ (255 : Int) < ((str (encT s)).size : Int)) (_e1 : ((((str (encT s)).size : Int) == ((str s).size : Int) + 1) = true)) (_e2 : ((((str (encB s)).size : Int) == ((str (encT s)).size : Int) + 1) = true)) (_s1 : ∀ W, (Instr.slice 9 (.string (str (encT s))) (some (.int .i64 1)) none none).run Try.prog W = .ok (.string (str s)) W) (_s2 : ∀ W, (Instr.slice 9 (.string (str (encB s))) (some (.int .i64 1)) none none).run Try.prog W = .ok (.string (str (encT s))) W) (_nn : ((str s).size : Int) ≤ 400) (_na : ((str (encT s)).size : Int) ≤ 403) (w : World) : Calls Try.prog 9 #[.string (str l)] w fun e w' => e = .returned (.bool true) ∧ Below w.heap.size w w' := by
  have HB := Lib.hid (And.intro trivial HA)
  have q1 : ((str s).toList == (str s).toList) = true := by simp
  have q2 : ((str (encT s)).toList == (str (encT s)).toList) = true := by simp
  clear HA
  go_enter Try.func9, Try.ntmps9
  go_wp2_with fail
  go_at_call 10
  refine (examples_c _).mono ?_
  rintro e W1 ⟨rfl, hb⟩
  have B1 := Lib.hid hb
  clear hb
  go_wp2_with fail
  go_at_call 23
  refine (textA_c _ _).mono ?_
  rintro e W2 ⟨rfl, hb⟩
  have B2 := Lib.hid (bel_then B1.out hb)
  have HE := Lib.hid (encA_c s HB.out.2 W2)
  clear hb B1
  go_wp2_with fail
  go_at_call 15
  refine HE.out.mono ?_
  rintro e W3 ⟨rfl, hb⟩
  have B3 := Lib.hid (bel_then B2.out hb)
  clear hb B2 HE
  go_wp2_with fail
  go_at_call 23
  refine (textA_c _ _).mono ?_
  rintro e W4 ⟨rfl, hb⟩
  have B4 := Lib.hid (bel_then (bel_then B3.out hb) (bel_al W4 (.cells #[.bool false, .string (str s), .slice none 0 0] 27)))
  have HL := Lib.hid (listA_c s W4)
  clear hb B3
  go_wp2_with fail
  go_at_call 24
  refine HL.out.mono ?_
  rintro e W5 ⟨u, rfl, hu, hb⟩
  have B5 := Lib.hid (bel_then B4.out hb)
  have HE := Lib.hid (encL_c s HB.out.2 u W5 hu)
  clear hb B4 HL hu
  go_wp2_with fail
  go_at_call 15
  refine HE.out.mono ?_
  rintro e W6 ⟨rfl, hb⟩
  have B6 := Lib.hid (bel_then B5.out hb)
  clear hb B5 HE
  go_wp2_with fail
  go_ret
  exact ⟨rfl, B6.out⟩
set_option maxRecDepth 100000 in
set_option maxHeartbeats 4000000 in
theorem short4 (l s : List UInt8) (hsl : ∀ W, (Instr.slice 9 (.string (str l)) none (some (.int .i64 (min (((str l).size : Nat) : Int) 400))) none).run Try.prog W = .ok (.string (str s)) W) (HA : (encB s).length ≤ 1000)
    (_c55 : ¬ (55 : Int) < ((str s).size : Int)) (_c255 : ¬ (255 : Int) < ((str s).size : Int)) (_c1 : ¬ ((str s).size : Int) = 1) (_c1' : (((str s).size : Int) == 1) = false) (_a55 : (55 : Int) < ((str (encT s)).size : Int)) (_a255 : ¬ (255 : Int) < ((str (encT s)).size : Int)) (_e1 : ((((str (encT s)).size : Int) == ((str s).size : Int) + 1) = true)) (_e2 : ((((str (encB s)).size : Int) == ((str (encT s)).size : Int) + 2) = true)) (_s1 : ∀ W, (Instr.slice 9 (.string (str (encT s))) (some (.int .i64 1)) none none).run Try.prog W = .ok (.string (str s)) W) (_s2 : ∀ W, (Instr.slice 9 (.string (str (encB s))) (some (.int .i64 2)) none none).run Try.prog W = .ok (.string (str (encT s))) W) (_nn : ((str s).size : Int) ≤ 400) (_na : ((str (encT s)).size : Int) ≤ 403) (w : World) : Calls Try.prog 9 #[.string (str l)] w fun e w' => e = .returned (.bool true) ∧ Below w.heap.size w w' := by
  have HB := Lib.hid (And.intro trivial HA)
  have q1 : ((str s).toList == (str s).toList) = true := by simp
  have q2 : ((str (encT s)).toList == (str (encT s)).toList) = true := by simp
  clear HA
  go_enter Try.func9, Try.ntmps9
  go_wp2_with fail
  go_at_call 10
  refine (examples_c _).mono ?_
  rintro e W1 ⟨rfl, hb⟩
  have B1 := Lib.hid hb
  clear hb
  go_wp2_with fail
  go_at_call 23
  refine (textA_c _ _).mono ?_
  rintro e W2 ⟨rfl, hb⟩
  have B2 := Lib.hid (bel_then B1.out hb)
  have HE := Lib.hid (encA_c s HB.out.2 W2)
  clear hb B1
  go_wp2_with fail
  go_at_call 15
  refine HE.out.mono ?_
  rintro e W3 ⟨rfl, hb⟩
  have B3 := Lib.hid (bel_then B2.out hb)
  clear hb B2 HE
  go_wp2_with fail
  go_at_call 23
  refine (textA_c _ _).mono ?_
  rintro e W4 ⟨rfl, hb⟩
  have B4 := Lib.hid (bel_then (bel_then B3.out hb) (bel_al W4 (.cells #[.bool false, .string (str s), .slice none 0 0] 27)))
  have HL := Lib.hid (listA_c s W4)
  clear hb B3
  go_wp2_with fail
  go_at_call 24
  refine HL.out.mono ?_
  rintro e W5 ⟨u, rfl, hu, hb⟩
  have B5 := Lib.hid (bel_then B4.out hb)
  have HE := Lib.hid (encL_c s HB.out.2 u W5 hu)
  clear hb B4 HL hu
  go_wp2_with fail
  go_at_call 15
  refine HE.out.mono ?_
  rintro e W6 ⟨rfl, hb⟩
  have B6 := Lib.hid (bel_then B5.out hb)
  clear hb B5 HE
  go_wp2_with fail
  go_ret
  exact ⟨rfl, B6.out⟩
set_option maxRecDepth 100000 in
set_option maxHeartbeats 4000000 in
theorem short5 (l s : List UInt8) (hsl : ∀ W, (Instr.slice 9 (.string (str l)) none (some (.int .i64 (min (((str l).size : Nat) : Int) 400))) none).run Try.prog W = .ok (.string (str s)) W) (HA : (encB s).length ≤ 1000)
    (_c55 : (55 : Int) < ((str s).size : Int)) (_c255 : ¬ (255 : Int) < ((str s).size : Int)) (_c1 : ¬ ((str s).size : Int) = 1) (_c1' : (((str s).size : Int) == 1) = false) (_a55 : (55 : Int) < ((str (encT s)).size : Int)) (_a255 : ¬ (255 : Int) < ((str (encT s)).size : Int)) (_e1 : ((((str (encT s)).size : Int) == ((str s).size : Int) + 2) = true)) (_e2 : ((((str (encB s)).size : Int) == ((str (encT s)).size : Int) + 2) = true)) (_s1 : ∀ W, (Instr.slice 9 (.string (str (encT s))) (some (.int .i64 2)) none none).run Try.prog W = .ok (.string (str s)) W) (_s2 : ∀ W, (Instr.slice 9 (.string (str (encB s))) (some (.int .i64 2)) none none).run Try.prog W = .ok (.string (str (encT s))) W) (_nn : ((str s).size : Int) ≤ 400) (_na : ((str (encT s)).size : Int) ≤ 403) (w : World) : Calls Try.prog 9 #[.string (str l)] w fun e w' => e = .returned (.bool true) ∧ Below w.heap.size w w' := by
  have HB := Lib.hid (And.intro trivial HA)
  have q1 : ((str s).toList == (str s).toList) = true := by simp
  have q2 : ((str (encT s)).toList == (str (encT s)).toList) = true := by simp
  clear HA
  go_enter Try.func9, Try.ntmps9
  go_wp2_with fail
  go_at_call 10
  refine (examples_c _).mono ?_
  rintro e W1 ⟨rfl, hb⟩
  have B1 := Lib.hid hb
  clear hb
  go_wp2_with fail
  go_at_call 23
  refine (textA_c _ _).mono ?_
  rintro e W2 ⟨rfl, hb⟩
  have B2 := Lib.hid (bel_then B1.out hb)
  have HE := Lib.hid (encA_c s HB.out.2 W2)
  clear hb B1
  go_wp2_with fail
  go_at_call 15
  refine HE.out.mono ?_
  rintro e W3 ⟨rfl, hb⟩
  have B3 := Lib.hid (bel_then B2.out hb)
  clear hb B2 HE
  go_wp2_with fail
  go_at_call 23
  refine (textA_c _ _).mono ?_
  rintro e W4 ⟨rfl, hb⟩
  have B4 := Lib.hid (bel_then (bel_then B3.out hb) (bel_al W4 (.cells #[.bool false, .string (str s), .slice none 0 0] 27)))
  have HL := Lib.hid (listA_c s W4)
  clear hb B3
  go_wp2_with fail
  go_at_call 24
  refine HL.out.mono ?_
  rintro e W5 ⟨u, rfl, hu, hb⟩
  have B5 := Lib.hid (bel_then B4.out hb)
  have HE := Lib.hid (encL_c s HB.out.2 u W5 hu)
  clear hb B4 HL hu
  go_wp2_with fail
  go_at_call 15
  refine HE.out.mono ?_
  rintro e W6 ⟨rfl, hb⟩
  have B6 := Lib.hid (bel_then B5.out hb)
  clear hb B5 HE
  go_wp2_with fail
  go_ret
  exact ⟨rfl, B6.out⟩
set_option maxRecDepth 100000 in
set_option maxHeartbeats 4000000 in
theorem short6 (l s : List UInt8) (hsl : ∀ W, (Instr.slice 9 (.string (str l)) none (some (.int .i64 (min (((str l).size : Nat) : Int) 400))) none).run Try.prog W = .ok (.string (str s)) W) (HA : (encB s).length ≤ 1000)
    (_c55 : (55 : Int) < ((str s).size : Int)) (_c255 : ¬ (255 : Int) < ((str s).size : Int)) (_c1 : ¬ ((str s).size : Int) = 1) (_c1' : (((str s).size : Int) == 1) = false) (_a55 : (55 : Int) < ((str (encT s)).size : Int)) (_a255 : (255 : Int) < ((str (encT s)).size : Int)) (_e1 : ((((str (encT s)).size : Int) == ((str s).size : Int) + 2) = true)) (_e2 : ((((str (encB s)).size : Int) == ((str (encT s)).size : Int) + 3) = true)) (_s1 : ∀ W, (Instr.slice 9 (.string (str (encT s))) (some (.int .i64 2)) none none).run Try.prog W = .ok (.string (str s)) W) (_s2 : ∀ W, (Instr.slice 9 (.string (str (encB s))) (some (.int .i64 3)) none none).run Try.prog W = .ok (.string (str (encT s))) W) (_nn : ((str s).size : Int) ≤ 400) (_na : ((str (encT s)).size : Int) ≤ 403) (w : World) : Calls Try.prog 9 #[.string (str l)] w fun e w' => e = .returned (.bool true) ∧ Below w.heap.size w w' := by
  have HB := Lib.hid (And.intro trivial HA)
  have q1 : ((str s).toList == (str s).toList) = true := by simp
  have q2 : ((str (encT s)).toList == (str (encT s)).toList) = true := by simp
  clear HA
  go_enter Try.func9, Try.ntmps9
  go_wp2_with fail
  go_at_call 10
  refine (examples_c _).mono ?_
  rintro e W1 ⟨rfl, hb⟩
  have B1 := Lib.hid hb
  clear hb
  go_wp2_with fail
  go_at_call 23
  refine (textA_c _ _).mono ?_
  rintro e W2 ⟨rfl, hb⟩
  have B2 := Lib.hid (bel_then B1.out hb)
  have HE := Lib.hid (encA_c s HB.out.2 W2)
  clear hb B1
  go_wp2_with fail
  go_at_call 15
  refine HE.out.mono ?_
  rintro e W3 ⟨rfl, hb⟩
  have B3 := Lib.hid (bel_then B2.out hb)
  clear hb B2 HE
  go_wp2_with fail
  go_at_call 23
  refine (textA_c _ _).mono ?_
  rintro e W4 ⟨rfl, hb⟩
  have B4 := Lib.hid (bel_then (bel_then B3.out hb) (bel_al W4 (.cells #[.bool false, .string (str s), .slice none 0 0] 27)))
  have HL := Lib.hid (listA_c s W4)
  clear hb B3
  go_wp2_with fail
  go_at_call 24
  refine HL.out.mono ?_
  rintro e W5 ⟨u, rfl, hu, hb⟩
  have B5 := Lib.hid (bel_then B4.out hb)
  have HE := Lib.hid (encL_c s HB.out.2 u W5 hu)
  clear hb B4 HL hu
  go_wp2_with fail
  go_at_call 15
  refine HE.out.mono ?_
  rintro e W6 ⟨rfl, hb⟩
  have B6 := Lib.hid (bel_then B5.out hb)
  clear hb B5 HE
  go_wp2_with fail
  go_ret
  exact ⟨rfl, B6.out⟩
set_option maxRecDepth 100000 in
set_option maxHeartbeats 4000000 in
theorem short7 (l s : List UInt8) (hsl : ∀ W, (Instr.slice 9 (.string (str l)) none (some (.int .i64 (min (((str l).size : Nat) : Int) 400))) none).run Try.prog W = .ok (.string (str s)) W) (HA : (encB s).length ≤ 1000)
    (_c55 : (55 : Int) < ((str s).size : Int)) (_c255 : (255 : Int) < ((str s).size : Int)) (_c1 : ¬ ((str s).size : Int) = 1) (_c1' : (((str s).size : Int) == 1) = false) (_a55 : (55 : Int) < ((str (encT s)).size : Int)) (_a255 : (255 : Int) < ((str (encT s)).size : Int)) (_e1 : ((((str (encT s)).size : Int) == ((str s).size : Int) + 3) = true)) (_e2 : ((((str (encB s)).size : Int) == ((str (encT s)).size : Int) + 3) = true)) (_s1 : ∀ W, (Instr.slice 9 (.string (str (encT s))) (some (.int .i64 3)) none none).run Try.prog W = .ok (.string (str s)) W) (_s2 : ∀ W, (Instr.slice 9 (.string (str (encB s))) (some (.int .i64 3)) none none).run Try.prog W = .ok (.string (str (encT s))) W) (_nn : ((str s).size : Int) ≤ 400) (_na : ((str (encT s)).size : Int) ≤ 403) (w : World) : Calls Try.prog 9 #[.string (str l)] w fun e w' => e = .returned (.bool true) ∧ Below w.heap.size w w' := by
  have HB := Lib.hid (And.intro trivial HA)
  have q1 : ((str s).toList == (str s).toList) = true := by simp
  have q2 : ((str (encT s)).toList == (str (encT s)).toList) = true := by simp
  clear HA
  go_enter Try.func9, Try.ntmps9
  go_wp2_with fail
  go_at_call 10
  refine (examples_c _).mono ?_
  rintro e W1 ⟨rfl, hb⟩
  have B1 := Lib.hid hb
  clear hb
  go_wp2_with fail
  go_at_call 23
  refine (textA_c _ _).mono ?_
  rintro e W2 ⟨rfl, hb⟩
  have B2 := Lib.hid (bel_then B1.out hb)
  have HE := Lib.hid (encA_c s HB.out.2 W2)
  clear hb B1
  go_wp2_with fail
  go_at_call 15
  refine HE.out.mono ?_
  rintro e W3 ⟨rfl, hb⟩
  have B3 := Lib.hid (bel_then B2.out hb)
  clear hb B2 HE
  go_wp2_with fail
  go_at_call 23
  refine (textA_c _ _).mono ?_
  rintro e W4 ⟨rfl, hb⟩
  have B4 := Lib.hid (bel_then (bel_then B3.out hb) (bel_al W4 (.cells #[.bool false, .string (str s), .slice none 0 0] 27)))
  have HL := Lib.hid (listA_c s W4)
  clear hb B3
  go_wp2_with fail
  go_at_call 24
  refine HL.out.mono ?_
  rintro e W5 ⟨u, rfl, hu, hb⟩
  have B5 := Lib.hid (bel_then B4.out hb)
  have HE := Lib.hid (encL_c s HB.out.2 u W5 hu)
  clear hb B4 HL hu
  go_wp2_with fail
  go_at_call 15
  refine HE.out.mono ?_
  rintro e W6 ⟨rfl, hb⟩
  have B6 := Lib.hid (bel_then B5.out hb)
  clear hb B5 HE
  go_wp2_with fail
  go_ret
  exact ⟨rfl, B6.out⟩
end Go.Proofs.Ytlgmdfeajmafoaa
