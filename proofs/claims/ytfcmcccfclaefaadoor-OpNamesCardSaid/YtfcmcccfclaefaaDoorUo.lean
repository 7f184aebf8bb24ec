/- OpNames: the law's walk (written by genUo.py). -/
import Derived.Test.YtfcmcccfclaefaaDoorUn
namespace Go.Proofs.YtfcmcccfclaefaaDoor
open Go.RowKit Go.Maps Go.Shelf Mp

def kindOk (a : Nat) (v : Inf) : Bool := decide ((95 ≤ a ∧ a ≤ 127 → v.inn = 0 ∧ v.out = 1) ∧ (128 ≤ a ∧ a ≤ 143 → v.out = v.inn + 1 ∧ v.inn = (a : Int) - 127) ∧ (144 ≤ a ∧ a ≤ 159 → v.out = v.inn ∧ v.inn = (a : Int) - 142) ∧ (160 ≤ a ∧ a ≤ 164 → v.out = 0 ∧ v.inn = (a : Int) - 158 ∧ v.gas = 375) ∧ v.out ≤ v.inn + 1 ∧ v.inn ≤ 17 ∧ 0 ≤ v.inn)
set_option maxRecDepth 100000 in
theorem kinds_all : (List.range 256).all (fun a => match infoOf a with | none => !pushB a | some v => kindOk a v) = true := by decide +kernel
theorem kind_some {a : Nat} {v : Inf} (ha : a < 256) (h : infoOf a = some v) : kindOk a v = true := by
  have h1 := List.all_eq_true.1 kinds_all a (List.mem_range.2 ha)
  rwa [h] at h1
theorem kind_none {a : Nat} (ha : a < 256) (h : infoOf a = none) : pushB a = false := by
  have h1 := List.all_eq_true.1 kinds_all a (List.mem_range.2 ha)
  rw [h] at h1
  simpa using h1
theorem name_once {a b : Nat} {v u : Inf} (ha : a < 256) (hb : b < 256) (hv : infoOf a = some v) (hu : infoOf b = some u) (h : v.nm = u.nm) : a = b := by
  have h1 := code_of_hit ha hv rfl
  have h2 := code_of_hit hb hu rfl
  rw [h, h2] at h1
  exact (Option.some.inj h1).symm
theorem str_eqb (a c : Nm) : ((str a).toList == (str c).toList) = decide (a = c) := by
  rw [ByteArray.toList_eq, ByteArray.toList_eq]
  by_cases e : a = c
  · simp [e]
  · simp [str, e]
/-- What is known of the name of b beside that of a. -/
theorem same_name {a b : Nat} {v : Inf} (ha : a < 256) (hb : b < 256) (hv : infoOf a = some v) : ∃ (s : ByteArray) (g i u : Int) (zb z : Bool), infO (infoOf b) = #[.string s, .int .u64 g, .int .i64 i, .int .i64 u] ∧ (infoOf b).isSome = zb ∧ (zb = true → ((str v.nm).toList == s.toList) = z ∧ ((a : Int) == (b : Int)) = z) := by
  cases hu : infoOf b with
  | none => exact ⟨_, _, _, _, false, false, rfl, rfl, fun h => by cases h⟩
  | some u =>
    refine ⟨str u.nm, _, _, _, true, decide (a = b), rfl, rfl, fun _ => ⟨?_, ?_⟩⟩
    · rw [str_eqb]
      exact decide_eq_decide.2 ⟨fun h => name_once ha hb hv hu h, fun h => by subst h; rw [hv] at hu; cases hu; rfl⟩
    · by_cases e : a = b
      · simp [e]
      · have : ¬ (a : Int) = (b : Int) := by omega
        simp [e, this]
set_option maxRecDepth 100000 in
set_option maxHeartbeats 8000000 in
theorem names_none {a b : Nat} (ha : a < 256) (hb : b < 256) (hi : infoOf a = none) (W : World) : Calls Tryd.prog 5 #[.int .u8 (a : Nat), .int .u8 (b : Nat)] W fun e W' => e = .returned (.bool true) ∧ Below W.heap.size W W' := by
  have hp := kind_none ha hi
  have C1 := Lib.hid (fun V => exam_c V)
  have C2 := Lib.hid (fun V => of_c ha V)
  rw [hi, show infO none = #[.string ⟨#[]⟩, .int .u64 0, .int .i64 0, .int .i64 0] from rfl, show (none : Option Inf).isSome = false from rfl] at C2
  have C3 := Lib.hid (fun V => of_c hb V)
  obtain ⟨s, g, i, u, hio⟩ := infO_cells (infoOf b)
  obtain ⟨z, hz⟩ : ∃ z, (infoOf b).isSome = z := ⟨_, rfl⟩
  rw [hio, hz] at C3
  have C4 := Lib.hid (fun V => push_calls a V)
  rw [hp] at C4
  clear hi hp hio hz ha hb
  go_enter Tryd.func5, Tryd.ntmps5
  go_wp2_with fail
  refine (C1.out _).mono ?_
  rintro e V1 ⟨rfl, h1⟩
  have H1 := Lib.hid ((Lw.start W).call h1)
  clear h1 C1
  go_wp2_with fail
  refine (C2.out _).mono ?_
  rintro e V2 ⟨rfl, h2⟩
  have H2 := Lib.hid ((H1.out.call h2).alloc (.cells #[.string ⟨#[]⟩, .int .u64 0, .int .i64 0, .int .i64 0] 25))
  clear h2 C2 H1
  go_wp2_with fail
  generalize World.alloc V2 _ = V2a at *
  generalize V2.heap.size = q at *
  refine (C3.out _).mono ?_
  rintro e V3 ⟨rfl, h3⟩
  have H3 := Lib.hid ((H2.out.call h3).alloc (.cells #[.string s, .int .u64 g, .int .i64 i, .int .i64 u] 25))
  clear h3 C3 H2
  go_wp2_with (go_at_call 13; refine (C4.out _).mono ?_; rintro e w1 ⟨rfl, rfl⟩; generalize World.alloc V3 _ = V3a at *; generalize V3.heap.size = q3 at *; obtain ⟨⟨l0, l1, l2, l3⟩, _⟩ := cells4 (H3.out.at (q := q) (List.mem_cons_of_mem _ (List.mem_cons_self ..))))
  go_ret
  exact ⟨rfl, H3.out.below⟩
set_option maxRecDepth 100000 in
set_option maxHeartbeats 16000000 in
theorem names_push {a b : Nat} (ha : a < 256) (hb : b < 256) {v : Inf} (hi : infoOf a = some v) (hr : 95 ≤ a ∧ a ≤ 127) (W : World) : Calls Tryd.prog 5 #[.int .u8 (a : Nat), .int .u8 (b : Nat)] W fun e W' => e = .returned (.bool true) ∧ Below W.heap.size W W' := by
  have hk := of_decide_eq_true (kind_some ha hi)
  obtain ⟨k1, k2, k3, k4, k5, k6, k7⟩ := hk
  obtain ⟨s, g, i, u, zb, z, hio, hzb, hzz⟩ := same_name ha hb hi
  have C1 := Lib.hid (fun V => exam_c V)
  have C2 := Lib.hid (fun V => of_c ha V)
  rw [hi, show infO (some v) = #[.string (str v.nm), .int .u64 v.gas, .int .i64 v.inn, .int .i64 v.out] from rfl, show (some v).isSome = true from rfl] at C2
  have C3 := Lib.hid (fun V => of_c hb V)
  rw [hio, hzb] at C3
  have C5 := Lib.hid (fun V => code_c (str v.nm) V)
  unfold CodeR at C5
  rw [code_of_hit ha hi rfl, show (((some a : Option Nat).getD 0 : Nat) : Int) = (a : Int) from rfl, show (some a : Option Nat).isSome = true from rfl] at C5
  have C4 := Lib.hid (fun V => push_calls a V)
  obtain ⟨y1, y2⟩ := k1 hr
  rw [show pushB a = true from decide_eq_true hr] at C4
  obtain ⟨d, hd⟩ : ∃ d, d = pushN a := ⟨_, rfl⟩
  rw [← hd] at C4
  have hd2 : (a : Int) - 95 = (d : Int) := by rw [hd, pushN, if_pos hr]; omega
  have hd3 : (d : Int) ≤ 32 := by omega
  clear hd
  generalize str v.nm = nn at *
  generalize v.gas = vg at *
  generalize v.inn = vi at *
  generalize v.out = vo at *
  subst y1 y2
  have r1 : (95 : Int) ≤ (a : Int) := by omega
  have r2 : (a : Int) ≤ 127 := by omega
  have k8 := k7
  have HZ := Lib.hid hzz
  clear hi hio hzb hzz ha hb k1 k2 k3 k4 k7 hr
  cases zb
  all_goals
    first | (obtain ⟨e1, e2⟩ := HZ.out rfl) | skip
    clear HZ
    go_enter Tryd.func5, Tryd.ntmps5
    go_wp2_with fail
    refine (C1.out _).mono ?_
    rintro e V1 ⟨rfl, h1⟩
    have H1 := Lib.hid ((Lw.start W).call h1)
    clear h1 C1
    go_wp2_with fail
    refine (C2.out _).mono ?_
    rintro e V2 ⟨rfl, h2⟩
    have H2 := Lib.hid ((H1.out.call h2).alloc (.cells #[.string nn, .int .u64 (vg), .int .i64 (0), .int .i64 (1)] 25))
    clear h2 C2 H1
    go_wp2_with fail
    generalize World.alloc V2 _ = V2a at *
    generalize V2.heap.size = q at *
    refine (C3.out _).mono ?_
    rintro e V3 ⟨rfl, h3⟩
    have H3 := Lib.hid ((H2.out.call h3).alloc (.cells #[.string s, .int .u64 g, .int .i64 i, .int .i64 u] 25))
    clear h3 C3 H2
    go_wp2_with (go_at_call 13; refine (C4.out _).mono ?_; rintro e w1 ⟨rfl, rfl⟩; generalize World.alloc V3 _ = V3a at *; generalize V3.heap.size = q3 at *; obtain ⟨⟨l0, l1, l2, l3⟩, _⟩ := cells4 (H3.out.at (q := q) (List.mem_cons_of_mem _ (List.mem_cons_self ..))))
    refine (C5.out _).mono ?_
    rintro e V4 ⟨rfl, h4⟩
    have H4 := Lib.hid (H3.out.call h4)
    clear l0 l1 l2 l3 h4 C5 H3
    obtain ⟨⟨l0, l1, l2, l3⟩, _⟩ := cells4 (H4.out.at (q := q) (List.mem_cons_of_mem _ (List.mem_cons_self ..)))
    obtain ⟨⟨m0, m1, m2, m3⟩, _⟩ := cells4 (H4.out.at (q := q3) (List.mem_cons_self ..))
    go_wp2_with fail
    go_ret
    exact ⟨rfl, H4.out.below⟩
set_option maxRecDepth 100000 in
set_option maxHeartbeats 16000000 in
theorem names_dup {a b : Nat} (ha : a < 256) (hb : b < 256) {v : Inf} (hi : infoOf a = some v) (hr : 128 ≤ a ∧ a ≤ 143) (W : World) : Calls Tryd.prog 5 #[.int .u8 (a : Nat), .int .u8 (b : Nat)] W fun e W' => e = .returned (.bool true) ∧ Below W.heap.size W W' := by
  have hk := of_decide_eq_true (kind_some ha hi)
  obtain ⟨k1, k2, k3, k4, k5, k6, k7⟩ := hk
  obtain ⟨s, g, i, u, zb, z, hio, hzb, hzz⟩ := same_name ha hb hi
  have C1 := Lib.hid (fun V => exam_c V)
  have C2 := Lib.hid (fun V => of_c ha V)
  rw [hi, show infO (some v) = #[.string (str v.nm), .int .u64 v.gas, .int .i64 v.inn, .int .i64 v.out] from rfl, show (some v).isSome = true from rfl] at C2
  have C3 := Lib.hid (fun V => of_c hb V)
  rw [hio, hzb] at C3
  have C5 := Lib.hid (fun V => code_c (str v.nm) V)
  unfold CodeR at C5
  rw [code_of_hit ha hi rfl, show (((some a : Option Nat).getD 0 : Nat) : Int) = (a : Int) from rfl, show (some a : Option Nat).isSome = true from rfl] at C5
  have C4 := Lib.hid (fun V => push_calls a V)
  rw [show pushB a = false from decide_eq_false (by omega)] at C4
  generalize pushN a = pn at C4
  obtain ⟨y1, y2⟩ := k2 hr
  generalize str v.nm = nn at *
  generalize v.gas = vg at *
  generalize v.inn = vi at *
  generalize v.out = vo at *
  subst y1
  have y3 : (a : Int) - 127 = vi := y2.symm
  clear y2
  have r1 : (128 : Int) ≤ (a : Int) := by omega
  have r2 : (a : Int) ≤ 143 := by omega
  have k8 := k7
  have HZ := Lib.hid hzz
  clear hi hio hzb hzz ha hb k1 k2 k3 k4 k7 hr
  cases zb
  all_goals
    first | (obtain ⟨e1, e2⟩ := HZ.out rfl) | skip
    clear HZ
    go_enter Tryd.func5, Tryd.ntmps5
    go_wp2_with fail
    refine (C1.out _).mono ?_
    rintro e V1 ⟨rfl, h1⟩
    have H1 := Lib.hid ((Lw.start W).call h1)
    clear h1 C1
    go_wp2_with fail
    refine (C2.out _).mono ?_
    rintro e V2 ⟨rfl, h2⟩
    have H2 := Lib.hid ((H1.out.call h2).alloc (.cells #[.string nn, .int .u64 (vg), .int .i64 (vi), .int .i64 (vi + 1)] 25))
    clear h2 C2 H1
    go_wp2_with fail
    generalize World.alloc V2 _ = V2a at *
    generalize V2.heap.size = q at *
    refine (C3.out _).mono ?_
    rintro e V3 ⟨rfl, h3⟩
    have H3 := Lib.hid ((H2.out.call h3).alloc (.cells #[.string s, .int .u64 g, .int .i64 i, .int .i64 u] 25))
    clear h3 C3 H2
    go_wp2_with (go_at_call 13; refine (C4.out _).mono ?_; rintro e w1 ⟨rfl, rfl⟩; generalize World.alloc V3 _ = V3a at *; generalize V3.heap.size = q3 at *; obtain ⟨⟨l0, l1, l2, l3⟩, _⟩ := cells4 (H3.out.at (q := q) (List.mem_cons_of_mem _ (List.mem_cons_self ..))))
    refine (C5.out _).mono ?_
    rintro e V4 ⟨rfl, h4⟩
    have H4 := Lib.hid (H3.out.call h4)
    clear l0 l1 l2 l3 h4 C5 H3
    obtain ⟨⟨l0, l1, l2, l3⟩, _⟩ := cells4 (H4.out.at (q := q) (List.mem_cons_of_mem _ (List.mem_cons_self ..)))
    obtain ⟨⟨m0, m1, m2, m3⟩, _⟩ := cells4 (H4.out.at (q := q3) (List.mem_cons_self ..))
    go_wp2_with fail
    go_ret
    exact ⟨rfl, H4.out.below⟩
set_option maxRecDepth 100000 in
set_option maxHeartbeats 16000000 in
theorem names_swap {a b : Nat} (ha : a < 256) (hb : b < 256) {v : Inf} (hi : infoOf a = some v) (hr : 144 ≤ a ∧ a ≤ 159) (W : World) : Calls Tryd.prog 5 #[.int .u8 (a : Nat), .int .u8 (b : Nat)] W fun e W' => e = .returned (.bool true) ∧ Below W.heap.size W W' := by
  have hk := of_decide_eq_true (kind_some ha hi)
  obtain ⟨k1, k2, k3, k4, k5, k6, k7⟩ := hk
  obtain ⟨s, g, i, u, zb, z, hio, hzb, hzz⟩ := same_name ha hb hi
  have C1 := Lib.hid (fun V => exam_c V)
  have C2 := Lib.hid (fun V => of_c ha V)
  rw [hi, show infO (some v) = #[.string (str v.nm), .int .u64 v.gas, .int .i64 v.inn, .int .i64 v.out] from rfl, show (some v).isSome = true from rfl] at C2
  have C3 := Lib.hid (fun V => of_c hb V)
  rw [hio, hzb] at C3
  have C5 := Lib.hid (fun V => code_c (str v.nm) V)
  unfold CodeR at C5
  rw [code_of_hit ha hi rfl, show (((some a : Option Nat).getD 0 : Nat) : Int) = (a : Int) from rfl, show (some a : Option Nat).isSome = true from rfl] at C5
  have C4 := Lib.hid (fun V => push_calls a V)
  rw [show pushB a = false from decide_eq_false (by omega)] at C4
  generalize pushN a = pn at C4
  obtain ⟨y1, y2⟩ := k3 hr
  generalize str v.nm = nn at *
  generalize v.gas = vg at *
  generalize v.inn = vi at *
  generalize v.out = vo at *
  subst y1
  have y3 : (a : Int) - 142 = vo := y2.symm
  clear y2
  have r1 : (144 : Int) ≤ (a : Int) := by omega
  have r2 : (a : Int) ≤ 159 := by omega
  have k8 := k7
  have HZ := Lib.hid hzz
  clear hi hio hzb hzz ha hb k1 k2 k3 k4 k7 hr
  cases zb
  all_goals
    first | (obtain ⟨e1, e2⟩ := HZ.out rfl) | skip
    clear HZ
    go_enter Tryd.func5, Tryd.ntmps5
    go_wp2_with fail
    refine (C1.out _).mono ?_
    rintro e V1 ⟨rfl, h1⟩
    have H1 := Lib.hid ((Lw.start W).call h1)
    clear h1 C1
    go_wp2_with fail
    refine (C2.out _).mono ?_
    rintro e V2 ⟨rfl, h2⟩
    have H2 := Lib.hid ((H1.out.call h2).alloc (.cells #[.string nn, .int .u64 (vg), .int .i64 (vo), .int .i64 (vo)] 25))
    clear h2 C2 H1
    go_wp2_with fail
    generalize World.alloc V2 _ = V2a at *
    generalize V2.heap.size = q at *
    refine (C3.out _).mono ?_
    rintro e V3 ⟨rfl, h3⟩
    have H3 := Lib.hid ((H2.out.call h3).alloc (.cells #[.string s, .int .u64 g, .int .i64 i, .int .i64 u] 25))
    clear h3 C3 H2
    go_wp2_with (go_at_call 13; refine (C4.out _).mono ?_; rintro e w1 ⟨rfl, rfl⟩; generalize World.alloc V3 _ = V3a at *; generalize V3.heap.size = q3 at *; obtain ⟨⟨l0, l1, l2, l3⟩, _⟩ := cells4 (H3.out.at (q := q) (List.mem_cons_of_mem _ (List.mem_cons_self ..))))
    refine (C5.out _).mono ?_
    rintro e V4 ⟨rfl, h4⟩
    have H4 := Lib.hid (H3.out.call h4)
    clear l0 l1 l2 l3 h4 C5 H3
    obtain ⟨⟨l0, l1, l2, l3⟩, _⟩ := cells4 (H4.out.at (q := q) (List.mem_cons_of_mem _ (List.mem_cons_self ..)))
    obtain ⟨⟨m0, m1, m2, m3⟩, _⟩ := cells4 (H4.out.at (q := q3) (List.mem_cons_self ..))
    go_wp2_with fail
    go_ret
    exact ⟨rfl, H4.out.below⟩
set_option maxRecDepth 100000 in
set_option maxHeartbeats 16000000 in
theorem names_log {a b : Nat} (ha : a < 256) (hb : b < 256) {v : Inf} (hi : infoOf a = some v) (hr : 160 ≤ a ∧ a ≤ 164) (W : World) : Calls Tryd.prog 5 #[.int .u8 (a : Nat), .int .u8 (b : Nat)] W fun e W' => e = .returned (.bool true) ∧ Below W.heap.size W W' := by
  have hk := of_decide_eq_true (kind_some ha hi)
  obtain ⟨k1, k2, k3, k4, k5, k6, k7⟩ := hk
  obtain ⟨s, g, i, u, zb, z, hio, hzb, hzz⟩ := same_name ha hb hi
  have C1 := Lib.hid (fun V => exam_c V)
  have C2 := Lib.hid (fun V => of_c ha V)
  rw [hi, show infO (some v) = #[.string (str v.nm), .int .u64 v.gas, .int .i64 v.inn, .int .i64 v.out] from rfl, show (some v).isSome = true from rfl] at C2
  have C3 := Lib.hid (fun V => of_c hb V)
  rw [hio, hzb] at C3
  have C5 := Lib.hid (fun V => code_c (str v.nm) V)
  unfold CodeR at C5
  rw [code_of_hit ha hi rfl, show (((some a : Option Nat).getD 0 : Nat) : Int) = (a : Int) from rfl, show (some a : Option Nat).isSome = true from rfl] at C5
  have C4 := Lib.hid (fun V => push_calls a V)
  rw [show pushB a = false from decide_eq_false (by omega)] at C4
  generalize pushN a = pn at C4
  obtain ⟨y1, y2, y4⟩ := k4 hr
  generalize str v.nm = nn at *
  generalize v.gas = vg at *
  generalize v.inn = vi at *
  generalize v.out = vo at *
  subst y1 y4
  have y3 : (a : Int) - 158 = vi := y2.symm
  clear y2
  have r1 : (160 : Int) ≤ (a : Int) := by omega
  have r2 : (a : Int) ≤ 164 := by omega
  have k8 := k7
  have HZ := Lib.hid hzz
  clear hi hio hzb hzz ha hb k1 k2 k3 k4 k7 hr
  cases zb
  all_goals
    first | (obtain ⟨e1, e2⟩ := HZ.out rfl) | skip
    clear HZ
    go_enter Tryd.func5, Tryd.ntmps5
    go_wp2_with fail
    refine (C1.out _).mono ?_
    rintro e V1 ⟨rfl, h1⟩
    have H1 := Lib.hid ((Lw.start W).call h1)
    clear h1 C1
    go_wp2_with fail
    refine (C2.out _).mono ?_
    rintro e V2 ⟨rfl, h2⟩
    have H2 := Lib.hid ((H1.out.call h2).alloc (.cells #[.string nn, .int .u64 (375), .int .i64 (vi), .int .i64 (0)] 25))
    clear h2 C2 H1
    go_wp2_with fail
    generalize World.alloc V2 _ = V2a at *
    generalize V2.heap.size = q at *
    refine (C3.out _).mono ?_
    rintro e V3 ⟨rfl, h3⟩
    have H3 := Lib.hid ((H2.out.call h3).alloc (.cells #[.string s, .int .u64 g, .int .i64 i, .int .i64 u] 25))
    clear h3 C3 H2
    go_wp2_with (go_at_call 13; refine (C4.out _).mono ?_; rintro e w1 ⟨rfl, rfl⟩; generalize World.alloc V3 _ = V3a at *; generalize V3.heap.size = q3 at *; obtain ⟨⟨l0, l1, l2, l3⟩, _⟩ := cells4 (H3.out.at (q := q) (List.mem_cons_of_mem _ (List.mem_cons_self ..))))
    refine (C5.out _).mono ?_
    rintro e V4 ⟨rfl, h4⟩
    have H4 := Lib.hid (H3.out.call h4)
    clear l0 l1 l2 l3 h4 C5 H3
    obtain ⟨⟨l0, l1, l2, l3⟩, _⟩ := cells4 (H4.out.at (q := q) (List.mem_cons_of_mem _ (List.mem_cons_self ..)))
    obtain ⟨⟨m0, m1, m2, m3⟩, _⟩ := cells4 (H4.out.at (q := q3) (List.mem_cons_self ..))
    go_wp2_with fail
    go_ret
    exact ⟨rfl, H4.out.below⟩
set_option maxRecDepth 100000 in
set_option maxHeartbeats 16000000 in
theorem names_low {a b : Nat} (ha : a < 256) (hb : b < 256) {v : Inf} (hi : infoOf a = some v) (hr : a < 95) (W : World) : Calls Tryd.prog 5 #[.int .u8 (a : Nat), .int .u8 (b : Nat)] W fun e W' => e = .returned (.bool true) ∧ Below W.heap.size W W' := by
  have hk := of_decide_eq_true (kind_some ha hi)
  obtain ⟨k1, k2, k3, k4, k5, k6, k7⟩ := hk
  obtain ⟨s, g, i, u, zb, z, hio, hzb, hzz⟩ := same_name ha hb hi
  have C1 := Lib.hid (fun V => exam_c V)
  have C2 := Lib.hid (fun V => of_c ha V)
  rw [hi, show infO (some v) = #[.string (str v.nm), .int .u64 v.gas, .int .i64 v.inn, .int .i64 v.out] from rfl, show (some v).isSome = true from rfl] at C2
  have C3 := Lib.hid (fun V => of_c hb V)
  rw [hio, hzb] at C3
  have C5 := Lib.hid (fun V => code_c (str v.nm) V)
  unfold CodeR at C5
  rw [code_of_hit ha hi rfl, show (((some a : Option Nat).getD 0 : Nat) : Int) = (a : Int) from rfl, show (some a : Option Nat).isSome = true from rfl] at C5
  have C4 := Lib.hid (fun V => push_calls a V)
  rw [show pushB a = false from decide_eq_false (by omega)] at C4
  generalize pushN a = pn at C4
  generalize str v.nm = nn at *
  generalize v.gas = vg at *
  generalize v.inn = vi at *
  generalize v.out = vo at *
  have r1 : (a : Int) < 95 := by omega
  have k8 := k7
  have HZ := Lib.hid hzz
  clear hi hio hzb hzz ha hb k1 k2 k3 k4 k7 hr
  cases zb
  all_goals
    first | (obtain ⟨e1, e2⟩ := HZ.out rfl) | skip
    clear HZ
    go_enter Tryd.func5, Tryd.ntmps5
    go_wp2_with fail
    refine (C1.out _).mono ?_
    rintro e V1 ⟨rfl, h1⟩
    have H1 := Lib.hid ((Lw.start W).call h1)
    clear h1 C1
    go_wp2_with fail
    refine (C2.out _).mono ?_
    rintro e V2 ⟨rfl, h2⟩
    have H2 := Lib.hid ((H1.out.call h2).alloc (.cells #[.string nn, .int .u64 (vg), .int .i64 (vi), .int .i64 (vo)] 25))
    clear h2 C2 H1
    go_wp2_with fail
    generalize World.alloc V2 _ = V2a at *
    generalize V2.heap.size = q at *
    refine (C3.out _).mono ?_
    rintro e V3 ⟨rfl, h3⟩
    have H3 := Lib.hid ((H2.out.call h3).alloc (.cells #[.string s, .int .u64 g, .int .i64 i, .int .i64 u] 25))
    clear h3 C3 H2
    go_wp2_with (go_at_call 13; refine (C4.out _).mono ?_; rintro e w1 ⟨rfl, rfl⟩; generalize World.alloc V3 _ = V3a at *; generalize V3.heap.size = q3 at *; obtain ⟨⟨l0, l1, l2, l3⟩, _⟩ := cells4 (H3.out.at (q := q) (List.mem_cons_of_mem _ (List.mem_cons_self ..))))
    refine (C5.out _).mono ?_
    rintro e V4 ⟨rfl, h4⟩
    have H4 := Lib.hid (H3.out.call h4)
    clear l0 l1 l2 l3 h4 C5 H3
    obtain ⟨⟨l0, l1, l2, l3⟩, _⟩ := cells4 (H4.out.at (q := q) (List.mem_cons_of_mem _ (List.mem_cons_self ..)))
    obtain ⟨⟨m0, m1, m2, m3⟩, _⟩ := cells4 (H4.out.at (q := q3) (List.mem_cons_self ..))
    go_wp2_with fail
    go_ret
    exact ⟨rfl, H4.out.below⟩
set_option maxRecDepth 100000 in
set_option maxHeartbeats 16000000 in
theorem names_high {a b : Nat} (ha : a < 256) (hb : b < 256) {v : Inf} (hi : infoOf a = some v) (hr : 164 < a ∧ a < 256) (W : World) : Calls Tryd.prog 5 #[.int .u8 (a : Nat), .int .u8 (b : Nat)] W fun e W' => e = .returned (.bool true) ∧ Below W.heap.size W W' := by
  have hk := of_decide_eq_true (kind_some ha hi)
  obtain ⟨k1, k2, k3, k4, k5, k6, k7⟩ := hk
  obtain ⟨s, g, i, u, zb, z, hio, hzb, hzz⟩ := same_name ha hb hi
  have C1 := Lib.hid (fun V => exam_c V)
  have C2 := Lib.hid (fun V => of_c ha V)
  rw [hi, show infO (some v) = #[.string (str v.nm), .int .u64 v.gas, .int .i64 v.inn, .int .i64 v.out] from rfl, show (some v).isSome = true from rfl] at C2
  have C3 := Lib.hid (fun V => of_c hb V)
  rw [hio, hzb] at C3
  have C5 := Lib.hid (fun V => code_c (str v.nm) V)
  unfold CodeR at C5
  rw [code_of_hit ha hi rfl, show (((some a : Option Nat).getD 0 : Nat) : Int) = (a : Int) from rfl, show (some a : Option Nat).isSome = true from rfl] at C5
  have C4 := Lib.hid (fun V => push_calls a V)
  rw [show pushB a = false from decide_eq_false (by omega)] at C4
  generalize pushN a = pn at C4
  generalize str v.nm = nn at *
  generalize v.gas = vg at *
  generalize v.inn = vi at *
  generalize v.out = vo at *
  have r1 : (164 : Int) < (a : Int) := by omega
  have r2 : (a : Int) < 256 := by omega
  have k8 := k7
  have HZ := Lib.hid hzz
  clear hi hio hzb hzz ha hb k1 k2 k3 k4 k7 hr
  cases zb
  all_goals
    first | (obtain ⟨e1, e2⟩ := HZ.out rfl) | skip
    clear HZ
    go_enter Tryd.func5, Tryd.ntmps5
    go_wp2_with fail
    refine (C1.out _).mono ?_
    rintro e V1 ⟨rfl, h1⟩
    have H1 := Lib.hid ((Lw.start W).call h1)
    clear h1 C1
    go_wp2_with fail
    refine (C2.out _).mono ?_
    rintro e V2 ⟨rfl, h2⟩
    have H2 := Lib.hid ((H1.out.call h2).alloc (.cells #[.string nn, .int .u64 (vg), .int .i64 (vi), .int .i64 (vo)] 25))
    clear h2 C2 H1
    go_wp2_with fail
    generalize World.alloc V2 _ = V2a at *
    generalize V2.heap.size = q at *
    refine (C3.out _).mono ?_
    rintro e V3 ⟨rfl, h3⟩
    have H3 := Lib.hid ((H2.out.call h3).alloc (.cells #[.string s, .int .u64 g, .int .i64 i, .int .i64 u] 25))
    clear h3 C3 H2
    go_wp2_with (go_at_call 13; refine (C4.out _).mono ?_; rintro e w1 ⟨rfl, rfl⟩; generalize World.alloc V3 _ = V3a at *; generalize V3.heap.size = q3 at *; obtain ⟨⟨l0, l1, l2, l3⟩, _⟩ := cells4 (H3.out.at (q := q) (List.mem_cons_of_mem _ (List.mem_cons_self ..))))
    refine (C5.out _).mono ?_
    rintro e V4 ⟨rfl, h4⟩
    have H4 := Lib.hid (H3.out.call h4)
    clear l0 l1 l2 l3 h4 C5 H3
    obtain ⟨⟨l0, l1, l2, l3⟩, _⟩ := cells4 (H4.out.at (q := q) (List.mem_cons_of_mem _ (List.mem_cons_self ..)))
    obtain ⟨⟨m0, m1, m2, m3⟩, _⟩ := cells4 (H4.out.at (q := q3) (List.mem_cons_self ..))
    go_wp2_with fail
    go_ret
    exact ⟨rfl, H4.out.below⟩
theorem names_c {a b : Nat} (ha : a < 256) (hb : b < 256) (W : World) : Calls Tryd.prog 5 #[.int .u8 (a : Nat), .int .u8 (b : Nat)] W fun e W' => e = .returned (.bool true) ∧ Below W.heap.size W W' := by
  cases hi : infoOf a with
  | none => exact names_none ha hb hi W
  | some v =>
    by_cases h1 : a < 95
    · exact names_low ha hb hi h1 W
    by_cases h2 : a ≤ 127
    · exact names_push ha hb hi ⟨by omega, h2⟩ W
    by_cases h3 : a ≤ 143
    · exact names_dup ha hb hi ⟨by omega, h3⟩ W
    by_cases h4 : a ≤ 159
    · exact names_swap ha hb hi ⟨by omega, h4⟩ W
    by_cases h5 : a ≤ 164
    · exact names_log ha hb hi ⟨by omega, h5⟩ W
    · exact names_high ha hb hi ⟨by omega, ha⟩ W
end Go.Proofs.YtfcmcccfclaefaaDoor
