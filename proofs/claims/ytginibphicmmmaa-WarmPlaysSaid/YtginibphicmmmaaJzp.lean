/- The law's does: its head. -/
import Derived.Test.YtginibphicmmmaaJzo
namespace Go.Proofs.Ytginibphicmmmaa
open Go.RowKit Go.Maps Go.Shelf Mp
theorem note_le {K : Type} [DecidableEq K] (g : Cg → Option K) (c : Cg) (k : K) (L : List Cg) : (noteBy g c k L).length ≤ L.length + 1 := by unfold noteBy; split <;> simp
/-- A deed. -/
structure Dd where
  kind : Nat
  a : Nat
  k : Nat
  n : Int
  l : LogP
def Dd.nm (d : Dd) : Nm := [UInt8.ofNat (97 + d.a % 3)]
def Dd.w (d : Dd) : Wq := ⟨0, 0, 0, d.k % 3⟩
/-- What is told in L' was told in L, or is the deed's. -/
def LogsIn (L : List Cg) (d : Dd) (L' : List Cg) : Prop := ∀ l, l ∈ logsOf L' → l ∈ logsOf L ∨ l = d.l
theorem logsIn_note {K : Type} [DecidableEq K] {g : Cg → Option K} {c : Cg} {k : K} {L : List Cg} {d : Dd} (h : logsOf (c :: L) = logsOf L) : LogsIn L d (noteBy g c k L) := by
  intro l hl
  unfold noteBy at hl
  split at hl
  · exact Or.inl hl
  · exact Or.inl (h ▸ hl)
theorem logs_drop {l : LogP} : ∀ (L : List Cg) (m : Nat), l ∈ logsOf (L.drop m) → l ∈ logsOf L
  | [], m, h => by simpa using h
  | c :: L, 0, h => h
  | c :: L, m + 1, h => by
    have h1 := logs_drop L m (by simpa using h)
    cases c <;> first | exact h1 | exact List.mem_append_left _ h1
def dvC (d : Dd) (tv : Value) : Array Value := #[.int .u8 (d.kind : Nat), .int .u8 (d.a : Nat), .int .u8 (d.k : Nat), .int .i64 d.n, .string (str d.l.addr), tv, .string (str d.l.data)]
section
variable {b e n : Nat} {L : List Cg} {B : List (Nat × Obj)} {W V : World} {d : Dd} {tv : Value}
set_option maxRecDepth 100000 in
set_option maxHeartbeats 8000000 in
theorem does_c (h : Tw L L.reverse b e n B W V) (hn : n < 100000) (hL : L.length ≤ n) (hk : d.kind < 256) (ha : d.a < 256) (hkk : d.k < 256) (hw : WordsAt W tv d.l.tops) (hal : d.l.addr.length ≤ big) (hdl : d.l.data.length ≤ big) (h32 : d.l.tops.length * 32 ≤ 140737488355328) :
    Calls Try.prog 10 #[ptr b, ptr e, .agg (dvC d tv)] V fun r V' => r = .returned (.bool true) ∧ ∃ L', Tw L' L'.reverse b e (n + 1) B W V' ∧ (L'.length ≤ n + 1 ∧ LogsIn L d L') := by
  have HH := Lib.hid (And.intro h (And.intro hn (And.intro hL hw)))
  have HD := Lib.hid (And.intro hal (And.intro hdl h32))
  obtain ⟨P, hP⟩ : ∃ P : Ending → World → Prop, P = fun r V' => r = .returned (.bool true) ∧ ∃ L', Tw L' L'.reverse b e (n + 1) B W V' ∧ (L'.length ≤ n + 1 ∧ LogsIn L d L') := ⟨_, rfl⟩
  rw [← hP]
  have HP := Lib.hid hP
  clear h hn hL hw hP hal hdl h32
  obtain ⟨r3, hr3⟩ : ∃ r3, r3 = d.a % 3 := ⟨_, rfl⟩
  have ha3 : (d.a : Int) % 3 = (r3 : Int) := by omega
  have hk3 : (d.k : Int) % 3 = (d.w.d : Int) := by simp [Dd.w]
  obtain ⟨m7, hm7⟩ : ∃ m7, m7 = d.kind % 7 := ⟨_, rfl⟩
  have hk7 : (d.kind : Int) % 7 = (m7 : Int) := by omega
  have HM := Lib.hid hm7
  clear hm7
  have hlt : (r3 : Int) < 3 := by omega
  have HR := Lib.hid hr3
  clear hr3
  unfold ptr dvC
  go_enter Try.func10, Try.ntmps10
  go_upto_region 1 with fail
  have M1 := HH.out.1.alloc (.cells #[.int .u8 (d.kind : Nat), .int .u8 (d.a : Nat), .int .u8 (d.k : Nat), .int .i64 d.n, .string (str d.l.addr), tv, .string (str d.l.data)] 35 (0, 0))
  obtain ⟨q, hq⟩ : ∃ q, q = V.heap.size := ⟨_, rfl⟩
  rw [← hq] at M1 ⊢
  generalize World.alloc V _ = V1 at M1 ⊢
  have M2 := M1.alloc (.cells #[.string ⟨#[97]⟩, .string ⟨#[98]⟩, .string ⟨#[99]⟩] 9 (0, 0))
  have z1 := cell_of (M2.at (List.mem_cons_of_mem _ (List.mem_cons_self ..))) 1
  simp only [List.getElem?_toArray, List.getElem?_cons_zero, List.getElem?_cons_succ] at z1
  have HM2 := Lib.hid M2
  clear M1 M2 hq
  have hnm : (V1.alloc (.cells #[.string ⟨#[97]⟩, .string ⟨#[98]⟩, .string ⟨#[99]⟩] 9 (0, 0))).cell? ⟨V1.heap.size, r3, none⟩ = some (.string (str d.nm)) := by
    rw [cell_of (heap_alloc_new V1 _)]
    have h3 : d.a % 3 = 0 ∨ d.a % 3 = 1 ∨ d.a % 3 = 2 := by omega
    unfold Dd.nm
    rw [HR.out]
    rcases h3 with h3 | h3 | h3 <;> rw [h3] <;> rfl
  go_upto_region 2 with fail
  have hM2 := (HM2.out.sub (B' := (q, Obj.cells #[.int .u8 (d.kind : Nat), .int .u8 (d.a : Nat), .int .u8 (d.k : Nat), .int .i64 d.n, .string (str d.l.addr), tv, .string (str d.l.data)] 35 (0, 0)) :: B) (fun z hz => List.mem_cons_of_mem _ hz))
  clear HM2 z1 hnm
  generalize World.alloc V1 _ = V2 at hM2 ⊢
  have z2 := cell_of (hM2.at (List.mem_cons_self ..)) 2
  simp only [List.getElem?_toArray, List.getElem?_cons_zero, List.getElem?_cons_succ] at z2
  have M3 := hM2.alloc (.cells (wqC d.w) 46 (0, 0))
  have HM3 := Lib.hid M3
  clear M3 hM2
  go_upto_region 3 with fail
  have hM3 := HM3.out
  unfold wqC at hM3
  rw [show d.w.a = 0 from rfl, show d.w.b = 0 from rfl, show d.w.c = 0 from rfl] at hM3
  clear HM3 z2
  obtain ⟨q2, hq2⟩ : ∃ q2, q2 = V2.heap.size := ⟨_, rfl⟩
  rw [← hq2] at hM3 ⊢
  clear hq2
  generalize World.alloc V2 _ = V3 at hM3 ⊢
  have z0 := cell_of (hM3.at (List.mem_cons_of_mem _ (List.mem_cons_self ..))) 0
  have z3 := cell_of (hM3.at (List.mem_cons_of_mem _ (List.mem_cons_self ..))) 3
  simp only [List.getElem?_toArray, List.getElem?_cons_zero, List.getElem?_cons_succ] at z0 z3
  have hnb : d.nm.length ≤ big := by unfold Dd.nm; simp [big]
  have HNB := Lib.hid (And.intro hnb (show n < 1000000000 by have := HH.out.2.1; omega))
  have HLL := Lib.hid (show L.reverse.length < 900000 by rw [List.length_reverse]; have := HH.out.2.1; have := HH.out.2.2.1; omega)
  clear hnb
  have h7 : m7 = 0 ∨ m7 = 1 ∨ m7 = 2 ∨ m7 = 3 ∨ m7 = 4 ∨ m7 = 5 ∨ m7 = 6 := by have := HM.out; omega
  rcases h7 with rfl | rfl | rfl | rfl | rfl | rfl | rfl
  · obtain ⟨r1, hr1⟩ : ∃ r1, r1 = (hasBy plOf L ⟨d.nm, true, Wq.zero⟩).isSome := ⟨_, rfl⟩
    have hbb : (r1 == r1) = true := by simp
    have HLE := Lib.hid (note_le plOf (.addr d.nm) ⟨d.nm, true, Wq.zero⟩ L)
    have HR1 := Lib.hid hr1
    have C := hM3.shasAddr HNB.out.1
    rw [← hr1] at C
    have CH := Lib.hid C
    clear hM3 C hr1
    unfold ptr at CH
    go_wp2_with fail
    refine CH.out.mono ?_
    rintro r V4 ⟨rfl, hM4⟩
    have C := hM4.xhasAddr HLL.out d.nm
    rw [any_has (is_addr d.nm), ← HR1.out] at C
    have CH2 := Lib.hid C
    clear hM4 CH C z0 z3
    unfold ptr at CH2
    go_wp2_with fail
    refine CH2.out.mono ?_
    rintro r V5 ⟨rfl, hM5⟩
    have C := hM5.saddr HNB.out.2 HNB.out.1
    rw [← HR1.out] at C
    have CH3 := Lib.hid C
    clear hM5 CH2 C
    unfold ptr at CH3
    go_wp2_with fail
    refine CH3.out.mono ?_
    rintro r V6 ⟨rfl, hM6⟩
    have C := hM6.xaddr HLL.out d.nm
    rw [← note_rev (g := plOf) (is_addr d.nm), any_has (is_addr d.nm), ← HR1.out] at C
    have CH4 := Lib.hid C
    clear hM6 CH3 C
    unfold ptr at CH4
    go_wp2_with fail
    refine CH4.out.mono ?_
    rintro r V7 ⟨rfl, hM7⟩
    have H7 := Lib.hid hM7
    clear hM7 CH4
    go_wp2_with fail
    rw [HP.out]
    exact ⟨by simp [HR1.out], _, H7.out.sub (fun z hz => List.mem_cons_of_mem _ (List.mem_cons_of_mem _ hz)), ⟨Nat.le_trans HLE.out (by have := HH.out.2.2.1; omega), logsIn_note rfl⟩⟩
  · obtain ⟨r1, hr1⟩ : ∃ r1, r1 = (hasBy plOf L ⟨d.nm, false, d.w⟩).isSome := ⟨_, rfl⟩
    have hbb : (r1 == r1) = true := by simp
    have HLE := Lib.hid (note_le plOf (.slot d.nm d.w) ⟨d.nm, false, d.w⟩ L)
    have HR1 := Lib.hid hr1
    have HOK := Lib.hid (show d.w.Ok from ⟨by show 0 < M64; decide, by show 0 < M64; decide, by show 0 < M64; decide, by show d.k % 3 < M64; exact Nat.lt_trans (Nat.mod_lt _ (by decide)) (show 3 < M64 by decide)⟩)
    clear hr1
    have HM := Lib.hid hM3
    clear hM3
    go_upto_region 7 with fail
    have S0 : V3.drew.heap[q2]? = some (.cells #[.int .u64 0, .int .u64 0, .int .u64 0, .int .u64 (d.w.d : Nat)] 46 (0, 0)) := HM.out.at (List.mem_cons_self ..)
    have HS := Lib.hid (fun (V : World) (hV : V.heap[q2]? = some (.cells #[.int .u64 0, .int .u64 0, .int .u64 0, .int .u64 (d.w.d : Nat)] 46 (0, 0))) => (show V.cell? ⟨q2, 0, none⟩ = some (.int .u64 0) ∧ V.cell? ⟨q2, 1, none⟩ = some (.int .u64 0) ∧ V.cell? ⟨q2, 2, none⟩ = some (.int .u64 0) ∧ V.cell? ⟨q2, 3, none⟩ = some (.int .u64 (d.w.d : Nat)) from ⟨cell_of hV 0, cell_of hV 1, cell_of hV 2, cell_of hV 3⟩))
    have HM8 := Lib.hid (HM.out.call (Below.refl _ V3).drew)
    clear HM z0 z3
    refine Drawn.start (fun V => V.heap[q2]? = some (.cells #[.int .u64 0, .int .u64 0, .int .u64 0, .int .u64 (d.w.d : Nat)] 46 (0, 0))) (fun _ => false) (by kernel_rfl) ?_
    generalize World.drew _ = V8 at HM8 S0 ⊢
    refine Drawn.take 0 (some 44) (v := ?_) rfl rfl (by kernel_rfl) (by kernel_rfl) (by kernel_rfl) (by kernel_rfl) (by kernel_rfl) rfl (fun _ _ _ h => h) (Or.inl ⟨rfl, ?_⟩) S0 ?_
    rotate_left
    · intro W hW; have hW := HS.out W hW; go_simp; try with_reducible rfl
    simp only [put_list, List.set]
    refine Drawn.take 1 (some 45) (v := ?_) rfl rfl (by kernel_rfl) (by kernel_rfl) (by kernel_rfl) (by kernel_rfl) (by kernel_rfl) rfl (fun _ _ _ h => h) (Or.inl ⟨rfl, ?_⟩) S0 ?_
    rotate_left
    · intro W hW; have hW := HS.out W hW; go_simp; try with_reducible rfl
    simp only [put_list, List.set]
    refine Drawn.take 2 (some 46) (v := ?_) rfl rfl (by kernel_rfl) (by kernel_rfl) (by kernel_rfl) (by kernel_rfl) (by kernel_rfl) rfl (fun _ _ _ h => h) (Or.inl ⟨rfl, ?_⟩) S0 ?_
    rotate_left
    · intro W hW; have hW := HS.out W hW; go_simp; try with_reducible rfl
    simp only [put_list, List.set]
    refine Drawn.take 4 (some 48) (v := ?_) rfl rfl (by kernel_rfl) (by kernel_rfl) (by kernel_rfl) (by kernel_rfl) (by kernel_rfl) rfl (fun _ _ _ h => h) (Or.inl ⟨rfl, ?_⟩) S0 ?_
    rotate_left
    · intro W hW; have hW := HS.out W hW; go_simp; try with_reducible rfl
    simp only [put_list, List.set]
    refine Drawn.take 5 (some 49) (v := ?_) rfl rfl (by kernel_rfl) (by kernel_rfl) (by kernel_rfl) (by kernel_rfl) (by kernel_rfl) rfl (fun _ _ _ h => h) (Or.inl ⟨rfl, ?_⟩) S0 ?_
    rotate_left
    · intro W hW; have hW := HS.out W hW; go_simp; try with_reducible rfl
    simp only [put_list, List.set]
    
    refine Drawn.take 6 (some 50) (v := ?_) rfl rfl (by kernel_rfl) (by kernel_rfl) (by kernel_rfl) (by kernel_rfl) (by kernel_rfl) rfl (fun _ _ _ h => h) (Or.inl ⟨rfl, ?_⟩) S0 ?_
    rotate_left
    · intro W hW; have hW := HS.out W hW; go_simp; try with_reducible rfl
    simp only [put_list, List.set]
    try simp only [put_list, List.set]
    have C := HM8.out.shasSlot HNB.out.1 HOK.out
    rw [← HR1.out] at C
    rw [show wqC d.w = #[.int .u64 0, .int .u64 0, .int .u64 0, .int .u64 (d.w.d : Nat)] from rfl] at C
    unfold ptr at C
    refine Drawn.only 3 (by kernel_rfl) rfl rfl (fun K hK => ?_)
    go_simp
    refine C.mono ?_
    rintro r V9 ⟨rfl, hM⟩
    have S1 := hM.at (q := q2) (List.mem_cons_self ..)
    have HM9 := Lib.hid hM
    refine hK _ _ (fun _ _ => S1) ?_
    clear hK K hM C S0 HM8
    have S0 := S1
    clear S1
    try simp only [put_list, List.set]
    have C := HM9.out.xhasSlot HLL.out d.nm d.w
    rw [any_has (is_slot d.nm d.w), ← HR1.out] at C
    rw [show wqC d.w = #[.int .u64 0, .int .u64 0, .int .u64 0, .int .u64 (d.w.d : Nat)] from rfl] at C
    unfold ptr at C
    refine Drawn.only 7 (by kernel_rfl) rfl rfl (fun K hK => ?_)
    go_simp
    refine C.mono ?_
    rintro r V10 ⟨rfl, hM⟩
    have S1 := hM.at (q := q2) (List.mem_cons_self ..)
    have HM10 := Lib.hid hM
    refine hK _ _ (fun _ _ => S1) ?_
    clear hK K hM C S0 HM9
    have S0 := S1
    clear S1
    try simp only [put_list, List.set]
    refine Drawn.take 8 (some 52) (v := ?_) rfl rfl (by kernel_rfl) (by kernel_rfl) (by kernel_rfl) (by kernel_rfl) (by kernel_rfl) rfl (fun _ _ _ h => h) (Or.inl ⟨rfl, ?_⟩) S0 ?_
    rotate_left
    · intro W hW; have hW := HS.out W hW; go_simp; try with_reducible rfl
    try simp only [put_list, List.set]
    refine Drawn.take 9 (some 53) (v := ?_) rfl rfl (by kernel_rfl) (by kernel_rfl) (by kernel_rfl) (by kernel_rfl) (by kernel_rfl) rfl (fun _ _ _ h => h) (Or.inl ⟨rfl, ?_⟩) S0 ?_
    rotate_left
    · intro W hW; have hW := HS.out W hW; go_simp; try with_reducible rfl
    try simp only [put_list, List.set]
    refine Drawn.take 10 (some 54) (v := ?_) rfl rfl (by kernel_rfl) (by kernel_rfl) (by kernel_rfl) (by kernel_rfl) (by kernel_rfl) rfl (fun _ _ _ h => h) (Or.inl ⟨rfl, ?_⟩) S0 ?_
    rotate_left
    · intro W hW; have hW := HS.out W hW; go_simp; try with_reducible rfl
    try simp only [put_list, List.set]
    refine Drawn.take 11 (some 55) (v := ?_) rfl rfl (by kernel_rfl) (by kernel_rfl) (by kernel_rfl) (by kernel_rfl) (by kernel_rfl) rfl (fun _ _ _ h => h) (Or.inl ⟨rfl, ?_⟩) S0 ?_
    rotate_left
    · intro W hW; have hW := HS.out W hW; go_simp; try with_reducible rfl
    try simp only [put_list, List.set]
    refine Drawn.take 12 (some 56) (v := ?_) rfl rfl (by kernel_rfl) (by kernel_rfl) (by kernel_rfl) (by kernel_rfl) (by kernel_rfl) rfl (fun _ _ _ h => h) (Or.inl ⟨rfl, ?_⟩) S0 ?_
    rotate_left
    · intro W hW; have hW := HS.out W hW; go_simp; try with_reducible rfl
    try simp only [put_list, List.set]
    refine Drawn.take 14 (some 58) (v := ?_) rfl rfl (by kernel_rfl) (by kernel_rfl) (by kernel_rfl) (by kernel_rfl) (by kernel_rfl) rfl (fun _ _ _ h => h) (Or.inl ⟨rfl, ?_⟩) S0 ?_
    rotate_left
    · intro W hW; have hW := HS.out W hW; go_simp; try with_reducible rfl
    try simp only [put_list, List.set]
    refine Drawn.take 15 (some 59) (v := ?_) rfl rfl (by kernel_rfl) (by kernel_rfl) (by kernel_rfl) (by kernel_rfl) (by kernel_rfl) rfl (fun _ _ _ h => h) (Or.inl ⟨rfl, ?_⟩) S0 ?_
    rotate_left
    · intro W hW; have hW := HS.out W hW; go_simp; try with_reducible rfl
    try simp only [put_list, List.set]
    refine Drawn.take 16 (some 60) (v := ?_) rfl rfl (by kernel_rfl) (by kernel_rfl) (by kernel_rfl) (by kernel_rfl) (by kernel_rfl) rfl (fun _ _ _ h => h) (Or.inl ⟨rfl, ?_⟩) S0 ?_
    rotate_left
    · intro W hW; have hW := HS.out W hW; go_simp; try with_reducible rfl
    try simp only [put_list, List.set]
    have C := HM10.out.sslot HNB.out.2 HNB.out.1 HOK.out
    rw [← HR1.out] at C
    rw [show wqC d.w = #[.int .u64 0, .int .u64 0, .int .u64 0, .int .u64 (d.w.d : Nat)] from rfl] at C
    unfold ptr at C
    refine Drawn.only 13 (by kernel_rfl) rfl rfl (fun K hK => ?_)
    go_simp
    refine C.mono ?_
    rintro r V11 ⟨rfl, hM⟩
    have S1 := hM.at (q := q2) (List.mem_cons_self ..)
    have HM11 := Lib.hid hM
    refine hK _ _ (fun _ _ => S1) ?_
    clear hK K hM C S0 HM10
    have S0 := S1
    clear S1
    try simp only [put_list, List.set]
    have C := HM11.out.xslot HLL.out d.nm d.w
    rw [← note_rev (g := plOf) (is_slot d.nm d.w), any_has (is_slot d.nm d.w), ← HR1.out] at C
    rw [show wqC d.w = #[.int .u64 0, .int .u64 0, .int .u64 0, .int .u64 (d.w.d : Nat)] from rfl] at C
    unfold ptr at C
    refine Drawn.only 17 (by kernel_rfl) rfl rfl (fun K hK => ?_)
    go_simp
    refine C.mono ?_
    rintro r V12 ⟨rfl, hM⟩
    have S1 := hM.at (q := q2) (List.mem_cons_self ..)
    have HM12 := Lib.hid hM
    refine hK _ _ (fun _ _ => S1) ?_
    clear hK K hM C S0 HM11
    have S0 := S1
    clear S1
    try simp only [put_list, List.set]
    refine Drawn.take 18 (some 62) (v := ?_) rfl rfl (by kernel_rfl) (by kernel_rfl) (by kernel_rfl) (by kernel_rfl) (by kernel_rfl) rfl (fun _ _ _ h => h) (Or.inl ⟨rfl, ?_⟩) S0 ?_
    rotate_left
    · intro W hW; have hW := HS.out W hW; go_simp; try with_reducible rfl
    try simp only [put_list, List.set]
    refine Drawn.take 19 (some 63) (v := ?_) rfl rfl (by kernel_rfl) (by kernel_rfl) (by kernel_rfl) (by kernel_rfl) (by kernel_rfl) rfl (fun _ _ _ h => h) (Or.inl ⟨rfl, ?_⟩) S0 ?_
    rotate_left
    · intro W hW; have hW := HS.out W hW; go_simp; try with_reducible rfl
    try simp only [put_list, List.set]
    refine Drawn.take 20 (some 6) (v := ?_) rfl rfl (by kernel_rfl) (by kernel_rfl) (by kernel_rfl) (by kernel_rfl) (by kernel_rfl) rfl (fun _ _ _ h => h) (Or.inl ⟨rfl, ?_⟩) S0 ?_
    rotate_left
    · intro W hW; have hW := HS.out W hW; go_simp; try with_reducible rfl
    try simp only [put_list, List.set]
    refine Drawn.done (by kernel_rfl) ?_ _
    clear HS
    go_wp2_with fail
    rw [HP.out]
    exact ⟨by simp [HR1.out], _, HM12.out.sub (fun z hz => List.mem_cons_of_mem _ (List.mem_cons_of_mem _ hz)), ⟨Nat.le_trans HLE.out (by have := HH.out.2.2.1; omega), logsIn_note rfl⟩⟩
  · obtain ⟨r1, hr1⟩ : ∃ r1, r1 = (hasBy mdOf L d.nm).isSome := ⟨_, rfl⟩
    have C := hM3.smade HNB.out.2 HNB.out.1
    have HLE := Lib.hid (note_le mdOf (.made d.nm) d.nm L)
    rw [← hr1] at C
    have CH := Lib.hid C
    clear hM3 C
    unfold ptr at CH
    go_wp2_with fail
    refine CH.out.mono ?_
    rintro r V4 ⟨rfl, hM4⟩
    have C := hM4.xmade HLL.out d.nm
    rw [← note_rev (g := mdOf) (is_made d.nm), any_has (is_made d.nm), ← hr1] at C
    have CH2 := Lib.hid C
    clear hM4 CH C z0 z3
    unfold ptr at CH2
    go_wp2_with fail
    refine CH2.out.mono ?_
    rintro r V5 ⟨rfl, hM5⟩
    have H5 := Lib.hid hM5
    have HR1 := Lib.hid hr1
    clear hM5 CH2 hr1
    go_wp2_with fail
    rw [HP.out]
    exact ⟨by simp [HR1.out], _, H5.out.sub (fun z hz => List.mem_cons_of_mem _ (List.mem_cons_of_mem _ hz)), ⟨Nat.le_trans HLE.out (by have := HH.out.2.2.1; omega), logsIn_note rfl⟩⟩
  · have CH := Lib.hid (hM3.srefund HNB.out.2 d.n)
    clear hM3
    unfold ptr at CH
    go_wp2_with fail
    refine CH.out.mono ?_
    rintro r V4 ⟨rfl, hM4⟩
    have z4 := cell_of (hM4.at (List.mem_cons_of_mem _ (List.mem_cons_self ..))) 3
    simp only [List.getElem?_toArray, List.getElem?_cons_zero, List.getElem?_cons_succ] at z4
    have CH2 := Lib.hid (hM4.xrefund HLL.out d.n)
    clear hM4 CH z0 z3
    unfold ptr at CH2
    go_wp2_with fail
    refine CH2.out.mono ?_
    rintro r V5 ⟨rfl, hM5⟩
    have H5 := Lib.hid hM5
    clear hM5 CH2 z4
    go_wp2_with fail
    rw [HP.out]
    exact ⟨rfl, .refund d.n :: L, by rw [List.reverse_cons]; exact H5.out.sub (fun z hz => List.mem_cons_of_mem _ (List.mem_cons_of_mem _ hz)), ⟨by have := HH.out.2.2.1; simp; omega, fun l h => Or.inl h⟩⟩
  · have hlog : ∀ j : Nat, V3.cell? ⟨q, j, none⟩ = _ := fun j => cell_of (hM3.at (List.mem_cons_of_mem _ (List.mem_cons_self ..))) j
    have u4 := hlog 4
    have u5 := hlog 5
    have u6 := hlog 6
    simp only [List.getElem?_toArray, List.getElem?_cons_zero, List.getElem?_cons_succ] at u4 u5 u6
    clear hlog
    have CH := Lib.hid (hM3.slog HNB.out.2 (HH.out.2.2.2.below hM3.below) HD.out.1 HD.out.2.1 HD.out.2.2)
    clear hM3
    unfold ptr logV at CH
    go_wp2_with fail
    refine CH.out.mono ?_
    rintro r V4 ⟨rfl, hM4⟩
    clear u4 u5 u6 z0 z3
    have hlog : ∀ j : Nat, V4.cell? ⟨q, j, none⟩ = _ := fun j => cell_of (hM4.at (List.mem_cons_of_mem _ (List.mem_cons_self ..))) j
    have u4 := hlog 4
    have u5 := hlog 5
    have u6 := hlog 6
    simp only [List.getElem?_toArray, List.getElem?_cons_zero, List.getElem?_cons_succ] at u4 u5 u6
    clear hlog
    have CH2 := Lib.hid (hM4.xlog HLL.out (HH.out.2.2.2.below hM4.below) HD.out.2.2)
    clear hM4 CH
    unfold ptr logV at CH2
    go_wp2_with fail
    refine CH2.out.mono ?_
    rintro r V5 ⟨rfl, hM5⟩
    have H5 := Lib.hid hM5
    clear hM5 CH2 u4 u5 u6
    go_wp2_with fail
    rw [HP.out]
    exact ⟨rfl, .log d.l :: L, by rw [List.reverse_cons]; exact H5.out.sub (fun z hz => List.mem_cons_of_mem _ (List.mem_cons_of_mem _ hz)), ⟨by have := HH.out.2.2.1; simp; omega, fun l h => (List.mem_append.1 h).imp id fun h => by simpa using h⟩⟩
  · obtain ⟨r1, hr1⟩ : ∃ r1, r1 = (hasBy gnOf L d.nm).isSome := ⟨_, rfl⟩
    have C := hM3.sgone HNB.out.2 HNB.out.1
    have HLE := Lib.hid (note_le gnOf (.gone d.nm) d.nm L)
    skip
    have CH := Lib.hid C
    clear hM3 C
    unfold ptr at CH
    go_wp2_with fail
    refine CH.out.mono ?_
    rintro r V4 ⟨rfl, hM4⟩
    have C := hM4.xgone HLL.out d.nm
    rw [← note_rev (g := gnOf) (is_gone d.nm)] at C
    have CH2 := Lib.hid C
    clear hM4 CH C z0 z3
    unfold ptr at CH2
    go_wp2_with fail
    refine CH2.out.mono ?_
    rintro r V5 ⟨rfl, hM5⟩
    have H5 := Lib.hid hM5
    clear hM5 CH2 hr1
    go_wp2_with fail
    rw [HP.out]
    exact ⟨by simp, _, H5.out.sub (fun z hz => List.mem_cons_of_mem _ (List.mem_cons_of_mem _ hz)), ⟨Nat.le_trans HLE.out (by have := HH.out.2.2.1; omega), logsIn_note rfl⟩⟩
  · obtain ⟨m, hm⟩ : ∃ m, m = d.n.tmod 30 := ⟨_, rfl⟩
    have hm2 : d.n.tmod 30 = m := hm.symm
    clear hm
    by_cases hv : 0 ≤ m ∧ m ≤ (L.length : Int)
    · obtain ⟨j, rfl⟩ : ∃ j : Nat, m = (j : Int) := ⟨m.toNat, by omega⟩
      have hj : j ≤ L.length := by omega
      have HV := Lib.hid hj
      have CH := Lib.hid (hM3.sback HNB.out.2 j hj)
      clear hM3 hv hj
      unfold ptr at CH
      go_wp2_with fail
      refine CH.out.mono ?_
      rintro r V4 ⟨rfl, hM4⟩
      have CH2 := Lib.hid (hM4.xback (j : Int))
      clear hM4 CH z0 z3
      unfold ptr at CH2
      go_wp2_with fail
      refine CH2.out.mono ?_
      rintro r V5 ⟨f, hf, rfl, hM5⟩
      rw [if_pos ⟨Int.natCast_nonneg j, by rw [List.length_reverse]; have := HV.out; omega⟩] at hf
      subst hf
      rw [if_pos rfl, show (j : Int).toNat = j from rfl, ← back_rev HV.out] at hM5
      have H5 := Lib.hid hM5
      clear hM5 CH2
      go_wp2_with fail
      rw [HP.out]
      exact ⟨rfl, _, (H5.out.sub (fun z hz => List.mem_cons_of_mem _ (List.mem_cons_of_mem _ hz))).mono (Nat.le_succ n), ⟨by have := HH.out.2.2.1; rw [List.length_drop]; omega, fun l h => Or.inl (logs_drop _ _ h)⟩⟩
    · have HV := Lib.hid hv
      have CH := Lib.hid (hM3.sbackNo m (by omega))
      clear hM3 hv
      unfold ptr at CH
      go_wp2_with fail
      refine CH.out.mono ?_
      rintro r V4 ⟨rfl, hM4⟩
      have CH2 := Lib.hid (hM4.xback m)
      clear hM4 CH z0 z3
      unfold ptr at CH2
      go_wp2_with fail
      refine CH2.out.mono ?_
      rintro r V5 ⟨f, hf, rfl, hM5⟩
      rw [if_neg (by rw [List.length_reverse]; exact HV.out)] at hf
      subst hf
      rw [if_neg (by decide)] at hM5
      have H5 := Lib.hid hM5
      clear hM5 CH2
      go_wp2_with fail
      rw [HP.out]
      exact ⟨rfl, _, (H5.out.sub (fun z hz => List.mem_cons_of_mem _ (List.mem_cons_of_mem _ hz))).mono (Nat.le_succ n), ⟨by have := HH.out.2.2.1; omega, fun l h => Or.inl h⟩⟩
end
end Go.Proofs.Ytginibphicmmmaa
