/- Deeds among a law's arguments. -/
import Derived.Test.YtginibphicmmmaaJPlain3
import Derived.Test.YtginibphicmmmaaJzp
namespace Go.Proofs.Ytginibphicmmmaa
open Go.ChangeShapes Go.WideShapes Go.ChangeAt Go.RowKit Go.Deep Go.Joins
set_option maxRecDepth 100000

theorem cellsDeed : Try.prog.cellsOf 35 = 7 := by kernel_rfl
theorem cellsU8d : Try.prog.cellsOf 5 = 1 := by kernel_rfl
theorem cellsI64d : Try.prog.cellsOf 2 = 1 := by kernel_rfl
instance : Inhabited (Dd × Value) := ⟨(⟨0, 0, 0, 0, default⟩, .slice none 0 0)⟩
def deedE (d : Dd) (tv : Value) : List Value := [.int .u8 (d.kind : Nat), .int .u8 (d.a : Nat), .int .u8 (d.k : Nat), .int .i64 d.n, .string (str d.l.addr), tv, .string (str d.l.data)]
/-- What is asked of a deed that is handed in. -/
structure DeedOk (w : World) (u : Dd × Value) : Prop where
  kind : u.1.kind < 256
  a : u.1.a < 256
  k : u.1.k < 256
  log : LogOk w (u.1.l, u.2)
section
variable {H : Type} {enc : TypeId × Value → H} {w : World} {base : Nat} {held : Bool}
theorem deed_of (m : Nat) (cs : List Value) (d : DataW H) (p : List MemPlace) (hl : cs.length = 7) (h : DataW.trod enc Try.prog w base (fun _ => true) held m 35 cs = some (d, p)) (hz : ∀ x ∈ d.weights Try.prog 35, x ≤ reachBytes) :
    ∃ u : Dd × Value, DeedOk w u ∧ cs = deedE u.1 u.2 := by
  obtain ⟨xs, k, _, hxy, _, hxl, hfs⟩ := DataW.trod_struct Try.underlying35 h
  match xs, hxl, cs, hl with
  | [y0, y1, y2, y3, y4], _, [v0, v1, v2, v3, v4, v5, v6], _ =>
    have g0 := hfs 0 _ rfl
    have g1 := hfs 1 _ rfl
    have g2 := hfs 2 _ rfl
    have g3 := hfs 3 _ rfl
    have g4 := hfs 4 _ rfl
    simp [cellsU8d, cellsI64d, cellsLog] at g0 g1 g2 g3 g4
    simp only [Prod.mk.injEq] at hxy
    have hw : d.weights Try.prog 35 = DataW.weightsEach Try.prog [5, 5, 5, 2, 33] [y0.1, y1.1, y2.1, y3.1, y4.1] := by
      rw [hxy.1]
      simp [DataW.weights, Try.underlying35]
    rw [hw] at hz
    obtain ⟨n0, e0, _, w0⟩ := DataW.trod_int Try.underlying5 g0
    obtain ⟨n1, e1, _, w1⟩ := DataW.trod_int Try.underlying5 g1
    obtain ⟨n2, e2, _, w2⟩ := DataW.trod_int Try.underlying5 g2
    obtain ⟨n3, e3, _, w3⟩ := DataW.trod_int Try.underlying2 g3
    obtain ⟨n0, rfl, b0⟩ := u8_of w0
    obtain ⟨n1, rfl, b1⟩ := u8_of w1
    obtain ⟨n2, rfl, b2⟩ := u8_of w2
    obtain ⟨u, hu, e4⟩ := log_of _ _ _ _ rfl g4 (fun x hx => hz x (by simp [DataW.weightsEach, hx]))
    simp at e0 e1 e2 e3
    simp [logE] at e4
    obtain ⟨rfl, rfl, rfl⟩ := e4
    subst e0 e1 e2 e3
    exact ⟨(⟨n0, n1, n2, n3, u.1⟩, u.2), ⟨b0, b1, b2, hu⟩, rfl⟩
/-- What is asked of deeds that are handed in. -/
def DeedsHere (w : World) (pa : Option Addr) (c : Nat) (ds : List Dd) : Prop := (∀ i d, ds[i]? = some d → ∃ g o tv, pa = some ⟨g, o, none⟩ ∧ g < w.heap.size ∧ (∀ j, j < 7 → w.cell? ⟨g, o + i * 7 + j, none⟩ = (deedE d tv)[j]?) ∧ DeedOk w (d, tv)) ∧ ds.length ≤ c ∧ (pa = none → c = 0)
theorem open_deeds {r : Reach} {b0 : Nat} {v : Value} {d : DataW H} {p : List MemPlace} (hv : Value.okWide Try.prog w r b0 22 v) (h : DataW.Trod enc Try.prog w base (fun _ => true) held 22 v d p) (hz : ∀ {x}, x ∈ d.weights Try.prog 22 → x ≤ reachBytes) :
    ∃ (a : Option Addr) (c : Nat) (ds : List Dd), v = .slice a ds.length c ∧ DeedsHere w a c ds := by
  obtain ⟨a0, len, cap, rfl⟩ := okWide_slice Try.underlying22 hv
  obtain ⟨fuel, h⟩ := h
  obtain ⟨pa, pc, l, e, hR, _, hc, hn⟩ := open_rowsT (St := 22) (T := 35) (n := 7) Try.underlying22 cellsDeed (by omega) (fun u : Dd × Value => deedE u.1 u.2) (DeedOk w) h (fun x hx => hz hx) (fun m cs' d' p' hl ht hz' => deed_of m cs' d' p' hl ht hz')
  cases e
  have hlen : (l.map Prod.fst).length = l.length := List.length_map _
  refine ⟨_, _, l.map Prod.fst, by rw [hlen], fun i u hu => ?_, by rw [hlen]; exact hc, hn⟩
  rw [List.getElem?_map] at hu
  cases hx : l[i]? with
  | none => rw [hx] at hu; cases hu
  | some x =>
    rw [hx] at hu
    simp at hu
    subst hu
    rcases hR with rfl | ⟨g, o, h1, hg, hall⟩
    · simp at hx
    · obtain ⟨hok, hcell⟩ := hall i x hx
      exact ⟨g, o, x.2, h1, hg, hcell, hok⟩
end
end Go.Proofs.Ytginibphicmmmaa
