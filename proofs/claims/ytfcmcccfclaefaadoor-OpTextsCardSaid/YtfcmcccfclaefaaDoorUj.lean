/- An instruction to look at. -/
import Derived.Test.YtfcmcccfclaefaaDoorUi
import Derived.Test.YtfcmcccfclaefaaDoorDraw
namespace Go.Proofs.YtfcmcccfclaefaaDoor
open Go.RowKit Go.Maps Go.Shelf Mp

def lineP : Nm → Nm
  | [] => []
  | c :: r => match infoOf c.toNat with
    | none => [63] ++ hexT (c :: r)
    | some v => if pushN c.toNat = 0 then v.nm else v.nm ++ [32, 48, 120] ++ hexT r
theorem nm_all : (List.range 256).all (fun c => match infoOf c with | none => true | some v => decide (v.nm.length ≤ 20)) = true := by decide +kernel
theorem nm_len {c : Nat} {v : Inf} (h : infoOf c = some v) : v.nm.length ≤ 20 := by
  by_cases hc : c < 256
  · have h1 := List.all_eq_true.1 nm_all c (List.mem_range.2 hc)
    rw [h] at h1
    exact of_decide_eq_true h1
  · rw [infoOf_high hc] at h; cases h
theorem look_all {m n : Nat} {V : World} (hm : MapFn kitB m n infoOf V) {c : Nat} (hc : c < 256) :
    (Instr.lookup 48 (.map (some m)) (.int .u8 (c : Nat)) true).run Tryd.prog V = .ok (.tuple #[.agg (infO (infoOf c)), .bool (infoOf c).isSome]) V := by
  have h1 := hm.look (k := c) hc true
  have e : (infoOf c).elim kitB.z kitB.ev = .agg (infO (infoOf c)) := by cases infoOf c <;> rfl
  rw [if_pos rfl, e] at h1
  exact h1
theorem str_drop (c : UInt8) (r : Nm) : (str (c :: r)).extract 1 (str (c :: r)).size = str r := by
  apply ByteArray.ext
  simp [str, ByteArray.size]
set_option maxRecDepth 100000 in
set_option maxHeartbeats 4000000 in
theorem line_none {m n : Nat} {V : World} (hm : MapFn kitB m n infoOf V) (c : UInt8) (r : Nm) (hl : (c :: r).length ≤ 1000) (hi : infoOf c.toNat = none) :
    Calls Tryd.prog 25 #[.map (some m), .string (str (c :: r))] V fun e V' => e = .returned (.string (str (lineP (c :: r)))) ∧ Below V.heap.size V V' := by
  have HL := look_all hm (c := c.toNat) c.toNat_lt
  rw [hi] at HL
  rw [show infO none = infZ from rfl, show (none : Option Inf).isSome = false from rfl] at HL
  unfold infZ at HL
  have C := Lib.hid (fun W => sixteenths_c (c :: r) hl W)
  have e1 : lineP (c :: r) = [63] ++ hexT (c :: r) := by simp only [lineP, hi]
  rw [e1, ← str_app]
  have hz1 : (str (hexT (c :: r))).size ≤ 2000 := by rw [str_size, hexT_len]; omega
  generalize str (hexT (c :: r)) = y at *
  have hs0 : 0 < (str (c :: r)).size := by rw [str_size]; simp
  have HB := Lib.hid ((Below.refl V.heap.size V).alloc (Nat.le_refl _) (.cells #[.string ⟨#[]⟩, .int .u64 0, .int .i64 0, .int .i64 0] 25))
  obtain ⟨s, hs, hq⟩ : ∃ s, s = str (c :: r) ∧ ∀ (h : 0 < s.size), s[0]'h = c := ⟨_, rfl, fun _ => rfl⟩
  rw [← hs]
  rw [← hs] at hs0
  simp only [← hs] at C
  have e63 : str [63] = { data := #[63] } := rfl
  rw [e63]
  clear hm hl hi e1 hs e63
  go_enter Tryd.func25, Tryd.ntmps25
  go_wp2_with fail
  refine (C.out _).mono ?_
  rintro e W1 ⟨rfl, h⟩
  have H := Lib.hid h
  clear h
  go_wp2_with fail
  go_ret
  exact ⟨rfl, HB.out.trans (H.out.mono HB.out.size)⟩
set_option maxRecDepth 100000 in
set_option maxHeartbeats 4000000 in
theorem line_plain {m n : Nat} {V : World} (hm : MapFn kitB m n infoOf V) (c : UInt8) (r : Nm) {v : Inf} (hi : infoOf c.toNat = some v) (hp : pushN c.toNat = 0) :
    Calls Tryd.prog 25 #[.map (some m), .string (str (c :: r))] V fun e V' => e = .returned (.string (str (lineP (c :: r)))) ∧ Below V.heap.size V V' := by
  have HL := look_all hm (c := c.toNat) c.toNat_lt
  rw [hi] at HL
  rw [show infO (some v) = infC v from rfl, show (some v : Option Inf).isSome = true from rfl] at HL
  unfold infC at HL
  have P := Lib.hid (fun W => push_calls c.toNat W)
  rw [hp] at P
  have e1 : lineP (c :: r) = v.nm := by simp only [lineP, hi]; rw [if_pos hp]
  rw [e1]
  have hs0 : 0 < (str (c :: r)).size := by rw [str_size]; simp
  obtain ⟨s, hs, hq⟩ : ∃ s, s = str (c :: r) ∧ ∀ (h : 0 < s.size), s[0]'h = c := ⟨_, rfl, fun _ => rfl⟩
  rw [← hs]
  rw [← hs] at hs0
  generalize str v.nm = nn at *
  generalize v.gas = g at *
  generalize v.inn = i at *
  generalize v.out = u at *
  generalize pushB c.toNat = pb at *
  have HB := Lib.hid ((Below.refl V.heap.size V).alloc (Nat.le_refl _) (.cells #[.string nn, .int .u64 g, .int .i64 i, .int .i64 u] 25))
  clear hm hi e1 hs hp
  go_enter Tryd.func25, Tryd.ntmps25
  go_wp2_with (go_at_call 13; refine (P.out _).mono ?_; rintro e w1 ⟨rfl, rfl⟩)
  go_ret
  exact ⟨rfl, HB.out⟩
set_option maxRecDepth 100000 in
set_option maxHeartbeats 4000000 in
theorem line_push {m n : Nat} {V : World} (hm : MapFn kitB m n infoOf V) (c : UInt8) (r : Nm) (hl : (c :: r).length ≤ 1000) {v : Inf} (hi : infoOf c.toNat = some v) (hp : ¬ pushN c.toNat = 0) :
    Calls Tryd.prog 25 #[.map (some m), .string (str (c :: r))] V fun e V' => e = .returned (.string (str (lineP (c :: r)))) ∧ Below V.heap.size V V' := by
  have HL := look_all hm (c := c.toNat) c.toNat_lt
  rw [hi] at HL
  rw [show infO (some v) = infC v from rfl, show (some v : Option Inf).isSome = true from rfl] at HL
  unfold infC at HL
  have P := Lib.hid (fun W => push_calls c.toNat W)
  have e1 : lineP (c :: r) = v.nm ++ [32, 48, 120] ++ hexT r := by simp only [lineP, hi]; rw [if_neg hp]
  rw [e1, ← str_app, ← str_app]
  have C := Lib.hid (fun W => sixteenths_c r (by simp at hl; omega) W)
  have hz1 : (str (hexT r)).size ≤ 2000 := by rw [str_size, hexT_len]; simp at hl; omega
  have hz2 : (str v.nm).size ≤ 20 := by rw [str_size]; exact nm_len hi
  have hs0 : 0 < (str (c :: r)).size := by rw [str_size]; simp
  have hx0 := str_drop c r
  obtain ⟨s, hs, hq⟩ : ∃ s, s = str (c :: r) ∧ ∀ (h : 0 < s.size), s[0]'h = c := ⟨_, rfl, fun _ => rfl⟩
  rw [← hs]
  rw [← hs] at hs0 hx0
  generalize str r = sr at *
  generalize str (hexT r) = y at *
  generalize str v.nm = nn at *
  generalize v.gas = g at *
  generalize v.inn = i at *
  generalize v.out = u at *
  generalize pushB c.toNat = pb at *
  have hz3 : nn.size + 3 ≤ 23 := by omega
  rw [show str [32, 48, 120] = { data := #[32, 48, 120] } from rfl]
  generalize hA : nn ++ { data := #[32, 48, 120] } = na at *
  have hz4 : na.size ≤ 23 := by rw [← hA, ByteArray.size_append]; exact hz3
  generalize hB : na ++ y = nb at *
  obtain ⟨pn, hpn⟩ : ∃ pn, pn = pushN c.toNat := ⟨_, rfl⟩
  rw [← hpn] at hp P
  have hp2 : ((pn : Int) == 0) = false := by simpa using hp
  have hp3 : ¬ (pn : Int) = 0 := by omega
  have HB := Lib.hid ((Below.refl V.heap.size V).alloc (Nat.le_refl _) (.cells #[.string nn, .int .u64 g, .int .i64 i, .int .i64 u] 25))
  have k0 : (V.alloc (.cells #[.string nn, .int .u64 g, .int .i64 i, .int .i64 u] 25)).cell? ⟨V.heap.size, 0, none⟩ = some (.string nn) := cell_of (heap_alloc_new V (.cells #[.string nn, .int .u64 g, .int .i64 i, .int .i64 u] 25)) 0
  have HK := Lib.hid k0
  have HV := Lib.hid (show V.heap.size < (V.alloc (.cells #[.string nn, .int .u64 g, .int .i64 i, .int .i64 u] 25)).heap.size by rw [alloc_size]; omega)
  have hz5 : ¬ 9223372036854775807 < nn.size + 3 := by omega
  have hz6 : ¬ 9223372036854775807 < na.size + y.size := by omega
  have hs1 : (1 : Int) ≤ (s.size : Int) := by omega
  clear hm hl hi e1 hs hp hpn k0
  go_enter Tryd.func25, Tryd.ntmps25
  go_wp2_with (go_at_call 13; refine (P.out _).mono ?_; rintro e w1 ⟨rfl, rfl⟩)
  generalize World.alloc V _ = V1 at *
  have HS := Lib.hid (fun (U : World) (hU : U.cell? ⟨V.heap.size, 0, none⟩ = some (.string nn)) => hU)
  have H0 : V1.drew.cell? ⟨V.heap.size, 0, none⟩ = some (.string nn) := HK.out
  refine Drawn.start (fun U => U.cell? ⟨V.heap.size, 0, none⟩ = some (.string nn)) (fun _ => false) (by kernel_rfl) ?_
  refine Drawn.take 0 (some 31) (v := ?_) rfl rfl (by kernel_rfl) (by kernel_rfl) (by kernel_rfl) (by kernel_rfl) (by kernel_rfl) rfl (fun _ _ _ h => h) (Or.inl ⟨rfl, ?_⟩) H0 ?_
  rotate_left
  · intro W hW; have hW := HS.out W hW; go_simp; try with_reducible rfl
  simp only [put_list, List.set]
  refine Drawn.take 1 (some 32) (v := ?_) rfl rfl (by kernel_rfl) (by kernel_rfl) (by kernel_rfl) (by kernel_rfl) (by kernel_rfl) rfl (fun _ _ _ h => h) (Or.inl ⟨rfl, ?_⟩) H0 ?_
  rotate_left
  · intro W hW; have hW := HS.out W hW; go_simp; try with_reducible rfl
  simp only [put_list, List.set]
  refine Drawn.take 2 (some 33) (v := ?_) rfl rfl (by kernel_rfl) (by kernel_rfl) (by kernel_rfl) (by kernel_rfl) (by kernel_rfl) rfl (fun _ _ _ h => h) (Or.inl ⟨rfl, ?_⟩) H0 ?_
  rotate_left
  · intro W hW; have hW := HS.out W hW; go_simp; try with_reducible rfl
  simp only [put_list, List.set]
  refine Drawn.take 3 (some 34) (v := ?_) rfl rfl (by kernel_rfl) (by kernel_rfl) (by kernel_rfl) (by kernel_rfl) (by kernel_rfl) rfl (fun _ _ _ h => h) (Or.inl ⟨rfl, ?_⟩) H0 ?_
  rotate_left
  · intro W hW; have hW := HS.out W hW; go_simp; try with_reducible rfl
  simp only [put_list, List.set]
  refine Drawn.take 4 (some 35) (v := ?_) rfl rfl (by kernel_rfl) (by kernel_rfl) (by kernel_rfl) (by kernel_rfl) (by kernel_rfl) rfl (fun _ _ _ h => h) (Or.inl ⟨rfl, ?_⟩) H0 ?_
  rotate_left
  · intro W hW; have hW := HS.out W hW; go_simp; try with_reducible rfl
  simp only [put_list, List.set]
  refine Drawn.only 5 (by kernel_rfl) rfl rfl (fun K hK => ?_)
  go_simp
  refine (C.out _).mono ?_
  rintro e V2 ⟨rfl, h9⟩
  have H2 := Lib.hid h9
  have S2 := (World.cell?_of_block (a := ⟨V.heap.size, 0, none⟩) (h9.block _ HV.out)).trans H0
  refine hK _ _ (fun _ _ => S2) ?_
  clear hK K C h9
  try simp only [put_list, List.set]
  refine Drawn.only 6 (by kernel_rfl) rfl rfl (fun K hK => ?_)
  go_simp
  refine hK _ _ (fun _ _ => S2) ?_
  clear hK K
  try simp only [put_list, List.set]
  refine Drawn.only 7 (by kernel_rfl) rfl rfl (fun K hK => ?_)
  try go_simp
  refine hK _ _ (fun _ _ => S2) ?_
  clear hK K
  try simp only [put_list, List.set]
  refine Drawn.done (by kernel_rfl) ?_ _
  clear S2 H0 HS
  go_wp2_with fail
  go_ret
  exact ⟨rfl, HB.out.drew.trans (H2.out.mono HB.out.size)⟩
theorem line_c {m n : Nat} {V : World} (hm : MapFn kitB m n infoOf V) (c : UInt8) (r : Nm) (hl : (c :: r).length ≤ 1000) :
    Calls Tryd.prog 25 #[.map (some m), .string (str (c :: r))] V fun e V' => e = .returned (.string (str (lineP (c :: r)))) ∧ Below V.heap.size V V' := by
  cases hi : infoOf c.toNat with
  | none => exact line_none hm c r hl hi
  | some v =>
    by_cases hp : pushN c.toNat = 0
    · exact line_plain hm c r hi hp
    · exact line_push hm c r hl hi hp
end Go.Proofs.YtfcmcccfclaefaaDoor
