/- Both disks are alike. -/
import Derived.Test.YtialfpkmcafkmaaGreatP19
import Derived.Test.YtialfpkmcafkmaaGreatP0n
import Derived.BigQuiet
namespace Go.Proofs.YtialfpkmcafkmaaGreat
open Go.RowKit Go.Maps Go.Sort Go.Shelf
section
variable {X : Nat → Prop} {V0 V W : World} {q p : Pd} {d N : Nat} {F : Nat → Prop} {b B : Nat} {v : Value}
theorem names_nodup {L : List Ent} (h : Up L) : (L.map (·.name)).Nodup := by
  induction L with
  | nil => simp
  | cons x r ih =>
    simp only [List.map_cons, List.nodup_cons]
    refine ⟨fun hm => ?_, ih h.2⟩
    obtain ⟨y, hy, e⟩ := List.mem_map.1 hm
    have := h.1 y hy
    rw [e] at this
    exact nlt _ this
theorem names_sorted {L : List Ent} (h : Up L) : (L.map (·.name)).Pairwise (fun x y => decide (x ≤ y) = true) := by
  induction L with
  | nil => simp
  | cons x r ih =>
    simp only [List.map_cons, List.pairwise_cons]
    refine ⟨fun s hs => ?_, ih h.2⟩
    obtain ⟨y, hy, rfl⟩ := List.mem_map.1 hs
    simp only [decide_eq_true_eq]
    exact List.le_of_lt (h.1 y hy)
theorem names_mem {L : List Ent} {s : Nm} : s ∈ L.map (·.name) ↔ (getE L s).isSome = true := by
  cases hg : getE L s with
  | none =>
    have := getE_none hg
    simp only [List.mem_map, Option.isSome_none]
    exact ⟨fun ⟨y, hy, e⟩ => absurd e (this y hy), fun h => by cases h⟩
  | some e =>
    obtain ⟨h1, h2⟩ := getE_mem hg
    simp only [List.mem_map, Option.isSome_some]
    exact ⟨fun _ => trivial, fun _ => ⟨e, h1, h2⟩⟩
theorem On.names (h : On p d N F W) (hl : p.L.length ≤ 100) : Calls Tryz.prog 30 #[.pointer (some ⟨d, 0, none⟩)] W fun e W' => ∃ v, e = .returned v ∧ OwnS W.heap.size (p.L.map (·.name)) v W' ∧ Below W.heap.size W W' := by
  obtain ⟨hp, x, rfl, rfl, h1, h2, h3⟩ := h
  have hj : Just x (p.L.map (·.name)) := by
    refine ⟨names_nodup hp.up, fun s => ?_⟩
    rw [names_mem]
    have := congrArg Option.isSome (h3.fs s)
    simp only [Option.isSome_map] at this
    rw [this]
  refine (names_c h1 hj (by rw [List.length_map]; exact hl)).mono ?_
  rintro e W' ⟨v, rfl, k1, k2⟩
  rw [List.mergeSort_of_pairwise (names_sorted hp.up)] at k1
  exact ⟨v, rfl, k1, k2⟩
set_option maxRecDepth 100000 in
set_option maxHeartbeats 2000000 in
theorem alike_c (h : Tw X V0 p p d N F b B v W) (hl : p.L.length ≤ 100) (hsh : Sh p) : Calls Tryz.prog 8 #[.pointer (some ⟨d, 0, none⟩), .pointer (some ⟨b, 0, none⟩)] W fun e W' => e = .returned (.bool true) ∧ Below W.heap.size W W' := by
  have C := Lib.hid (h.on.names hl)
  have H := Lib.hid h
  have hml : (p.L.map (·.name)).length = p.L.length := List.length_map _
  have HM := Lib.hid hml
  have HSh := Lib.hid hsh
  clear h hml hsh
  go_enter Tryz.func8, Tryz.ntmps8
  go_wp2_with fail
  refine C.out.mono ?_
  rintro e W1 ⟨v1, rfl, k1, k2⟩
  obtain ⟨a1, c1, rfl⟩ := k1.form
  rw [HM.out] at k1 ⊢
  have T1 := H.out.call k2
  obtain ⟨a2, c2, rfl⟩ := own3_any T1.rk.row
  obtain ⟨⟨e0, _⟩, _⟩ := T1.rk.reads
  have K := Lib.hid (And.intro k1 (And.intro k2 T1))
  clear k1 k2 T1 C
  go_wp2_with fail
  go_loopw [6] (fun i wr => ∃ k : Nat, i = .int .i64 k ∧ k ≤ p.L.length ∧ Below W1.heap.size W1 wr) (fun i _ => p.L.length - (intOf i).toNat)
  case atStart => exact ⟨0, rfl, by omega, Below.refl _ _⟩
  case round =>
    obtain ⟨k, rfl, hk, hb⟩ := hrel
    have T := K.out.2.2.call hb
    have k1 := K.out.1.keep hb
    obtain ⟨⟨e0, _⟩, _⟩ := T.rk.reads
    by_cases hlt : k < p.L.length
    · obtain ⟨e, he⟩ : ∃ e, p.L[k]? = some e := ⟨_, List.getElem?_eq_getElem hlt⟩
      obtain ⟨n, hn⟩ : ∃ n, p.L.length = n + 1 := ⟨p.L.length - 1, by omega⟩
      obtain ⟨g, c, hs, _, _, hc⟩ := k1.ptr (n := n) (by rw [HM.out]; exact hn)
      obtain ⟨rfl, rfl⟩ : a1 = some ⟨g, 0, none⟩ ∧ c1 = c := by injection hs with q1 _ q3; exact ⟨q1, q3⟩
      obtain ⟨g2, c3, hs2, hc3⟩ := own3_ptr T.rk.row (by omega)
      obtain ⟨rfl, rfl⟩ : a2 = some ⟨g2, 0, none⟩ ∧ c2 = c3 := by injection hs2 with q1 _ q3; exact ⟨q1, q3⟩
      have d0 := k1.cell HM.out (k := k) (t := e.name) (by rw [List.getElem?_map, he]; rfl)
      obtain ⟨r0, r1, _⟩ := cellsE_get he
      have y0 := own3_cell T.rk.row r0
      have y1 := own3_cell T.rk.row r1
      have hge := getE_of_mem T.on.ok.up (List.mem_of_getElem? he)
      have R := Lib.hid (T.on.read (s := e.name) (by have := HSh.out e (List.mem_of_getElem? he); unfold maxLen; omega))
      rw [hge, readV] at R
      have hlti : (k : Int) < (p.L.length : Int) := by omega
      have hk0 : (0 : Int) ≤ (k : Int) := by omega
      have hw : IntKind.i64.wrap ((k : Int) + 1) = (k : Int) + 1 := IntWalk.i64_in _ (by omega)
      have HB := Lib.hid hb
      clear hs hs2 hn he r0 r1 hge T k1 hb hc hc3
      generalize str e.name = en at *
      generalize str e.bs = eb at *
      go_wp2_with fail
      refine R.out.mono ?_
      rintro r w2 ⟨rfl, rfl⟩
      clear R
      go_wp2_with fail
      go_quiet (fail)
      go_wp2_with fail
      exact ⟨⟨k + 1, by go_num, by omega, HB.out.trans (below_drewN (.refl _ _) _)⟩, by simp [intOf]; omega⟩
    · obtain rfl : k = p.L.length := by omega
      have HB := Lib.hid (K.out.2.1.trans (hb.mono K.out.2.1.size))
      have hlti : ¬ ((p.L.length : Nat) : Int) < ((p.L.length : Nat) : Int) := by omega
      clear T k1 hb
      go_wp2_with fail
      go_ret
      exact ⟨rfl, HB.out⟩
end
end Go.Proofs.YtialfpkmcafkmaaGreat
