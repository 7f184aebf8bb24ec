/- A builder; two digits for each byte. -/
import Derived.Test.YtfcmcccfclaefaaDoorUg
import Derived.Test.YtfcmcccfclaefaaDoorShelf
import Derived.Shelf.Strings.Builder1
namespace Go.Proofs.YtfcmcccfclaefaaDoor
open Go.RowKit Go.Maps Go.Shelf Mp

theorem sizeBuilder : (Tryd.prog.info? 66).map (·.size) = some 2 := by kernel_rfl
theorem infoByte : (Tryd.prog.info? 5).map (fun i => (i.zero, i.size, i.bytes)) = some (some (.int .u8 0), 1, 1) := by kernel_rfl
abbrev Bd (B b : Nat) (bs : List UInt8) (w : World) : Prop := Lib.BuilderAt 66 5 B b (.pointer (some ⟨b, 0, none⟩)) (Lib.byteCells bs) w
theorem byteCells_app (a b : List UInt8) : Lib.byteCells a ++ Lib.byteCells b = Lib.byteCells (a ++ b) := by simp [Lib.byteCells]
theorem byteCells_len (a : List UInt8) : (Lib.byteCells a).length = a.length := by simp [Lib.byteCells]
set_option maxRecDepth 100000 in
theorem check_used (b : Nat) (W : World) (c0 : W.cell? ⟨b, 0, none⟩ = some (.pointer (some ⟨b, 0, none⟩))) :
    Calls Tryd.prog 48 #[.pointer (some ⟨b, 0, none⟩)] W fun e W' => e = .returned (.tuple #[]) ∧ W = W' := by
  obtain ⟨j, hj, hjs⟩ := Option.map_eq_some_iff.1 sizeBuilder
  have hq := fun w => Lib.run_neq_ptr_same (P := Tryd.prog) w ⟨b, 0, none⟩ Tryd.underlying64 hj
  clear hj hjs
  go_enter Tryd.func48, Tryd.ntmps48
  go_wp2_with fail
  go_end0
  exact ⟨rfl, rfl⟩
set_option maxHeartbeats 4000000 in
set_option maxRecDepth 100000 in
theorem wbyte_c {B b : Nat} {bs : List UInt8} {w : World} (h : Bd B b bs w) (c : UInt8) (hlen : bs.length ≤ 1000000) (hBw : B ≤ w.heap.size) :
    Calls Tryd.prog 45 #[.pointer (some ⟨b, 0, none⟩), .int .u8 (c.toNat : Nat)] w fun e w' => e = .returned .nilIface ∧ Bd B b (bs ++ [c]) w' ∧ Below B w w' := by
  obtain ⟨i0, hi, hz0, hz1, hz2⟩ := info_parts infoByte
  have hlt := h.lt
  obtain ⟨hB, v, hbk, hown, hne⟩ := h
  have c0 : w.cell? ⟨b, 0, none⟩ = some (.pointer (some ⟨b, 0, none⟩)) := by rw [Lib.cell_of_heap hbk]; rfl
  have c1 : w.cell? ⟨b, 1, none⟩ = some v := by rw [Lib.cell_of_heap hbk]; rfl
  rw [byteCells_len] at hown
  have C := Lib.hid (check_used b w c0)
  have HI := Lib.hid (And.intro hi (And.intro hz0 (And.intro hz1 hz2)))
  have HQ := Lib.hid (And.intro hB (And.intro hbk (And.intro hown (And.intro hne (And.intro hlt (And.intro hlen hBw))))))
  obtain ⟨x, hx⟩ : ∃ x : Int, x = (c.toNat : Nat) := ⟨_, rfl⟩
  rw [← hx]
  have HX := Lib.hid hx
  clear hi hz0 hz1 hz2 hB hbk hown hne hlt hlen hBw c0 hx
  go_enter Tryd.func45, Tryd.ntmps45
  go_wp2_with (first | (go_at_call 48; refine C.out.mono ?_; rintro e w1 ⟨rfl, rfl⟩) | (at_builtin; refine wpList_append_own _ rfl _ _ 42 rfl B 5 i0 (.int .u8 0) 1 1 Tryd.underlying42 HI.out.1 HI.out.2.1 HI.out.2.2.1 HI.out.2.2.2 rfl (by decide) _ _ _ rfl (HQ.out.2.2.1.alloc _) ⟨w.heap.size, 0, none⟩ 1 1 [.int .u8 x] rfl rfl ?c1 ?c2 ?c3 ?c4 ?c5 ?_))
  case c1 =>
    intro j u hj
    match j, hj with
    | 0, hj => simp at hj; subst hj; simp [Addr.add]
  case c2 => intro u hu; simp at hu; subst hu; rfl
  case c3 => have := HQ.out.2.2.2.2.2.1; unfold maxLen; omega
  case c4 => have := HQ.out.2.2.2.2.2.1; omega
  case c5 => have := HQ.out.2.2.2.2.2.2; simp; omega
  intro v' w2 hown' hgrow _
  obtain ⟨hB, hbk, hown, hne, hlt, hlen, hBw⟩ := HQ.out
  have hb2 : w2.heap[b]? = some (.cells #[.pointer (some ⟨b, 0, none⟩), v] 66 (0, 0)) := by
    rw [hgrow.block b (by simp; omega) (fun e => hne e.symm), Lib.alloc_old w _ b hlt]
    exact hbk
  have d0 : w2.cell? ⟨b, 0, none⟩ = some (.pointer (some ⟨b, 0, none⟩)) := by rw [Lib.cell_of_heap hb2]; rfl
  have d1 : w2.cell? ⟨b, 1, none⟩ = some v := by rw [Lib.cell_of_heap hb2]; rfl
  have f1 : w2.frozen? ⟨b, 1, none⟩ = false := Lib.frozen_of_heap hb2 1
  obtain ⟨g, cap, rfl⟩ : ∃ g cap, v' = .slice (some ⟨g, 0, none⟩) (bs.length + 1) cap := by
    rcases hown'.2 with ⟨_, h0⟩ | ⟨g, cap, cur, hv, _⟩
    · omega
    · exact ⟨g, cap, hv⟩
  have HZ := Lib.hid (And.intro hb2 (And.intro hown' (And.intro hgrow (And.intro hB (And.intro hown hBw)))))
  clear hb2 hown' hgrow hB hbk hown hne hlt hlen hBw
  go_wp2_with fail
  go_ret
  obtain ⟨hb2, hown', hgrow, hB, hown, hBw⟩ := HZ.out
  refine ⟨rfl, ?_, ?_⟩
  · have e : Lib.byteCells (bs ++ [c]) = Lib.byteCells bs ++ [.int .u8 x] := by rw [← byteCells_app, HX.out]; rfl
    show Lib.BuilderAt _ _ B b _ _ _
    rw [e]
    exact Lib.BuilderAt.put (T := 66) (e := 5) hB hb2 (bs' := Lib.byteCells bs ++ [.int .u8 x]) (by simpa [byteCells_len] using hown') (by decide)
  · exact ((((Below.refl B w).alloc hBw _).grown hgrow (by simp; omega) (fun k hk => (hown.lt k hk).1))).setCell (p := ⟨b, 1, none⟩) hB _
end Go.Proofs.YtfcmcccfclaefaaDoor
