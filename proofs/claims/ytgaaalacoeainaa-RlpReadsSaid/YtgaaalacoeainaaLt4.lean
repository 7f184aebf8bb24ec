/- Parts, and the item that they make: the first two cases. -/
import Derived.Test.YtgaaalacoeainaaLt3
import Derived.Test.YtgaaalacoeainaaLw
import Derived.StillTailTactics
namespace Go.Proofs.Ytgaaalacoeainaa
open Go.RowKit

/-- Parts lie from cell o of block g on. -/
def PAt (W : World) (g : Nat) : Nat → List (Nat × List UInt8) → Prop
  | _, [] => True
  | o, (k, s) :: t => (k < 256 ∧ s.length ≤ 9223372036854775807 ∧ W.cell? ⟨g, o, none⟩ = some (.int .u8 (k : Nat)) ∧ W.cell? ⟨g, o + 1, none⟩ = some (.string (str s))) ∧ PAt W g (o + 2) t
theorem PAt.kept {W W' : World} {g : Nat} (hb : W'.heap[g]? = W.heap[g]?) : ∀ (l : List (Nat × List UInt8)) (o : Nat), PAt W g o l → PAt W' g o l := by
  intro l
  induction l with
  | nil => intro o _; trivial
  | cons b l ih =>
    obtain ⟨k, s⟩ := b
    intro o ⟨⟨h1, h2, h3, h4⟩, h5⟩
    exact ⟨⟨h1, h2, (World.cell?_of_block hb).trans h3, (World.cell?_of_block hb).trans h4⟩, ih _ h5⟩
theorem PAt.drop {W : World} {g : Nat} : ∀ (n : Nat) (l : List (Nat × List UInt8)) (o : Nat), PAt W g o l → PAt W g (o + 2 * min n l.length) (l.drop n) := by
  intro n
  induction n with
  | zero => intro l o h; simpa using h
  | succ n ih =>
    intro l o h
    cases l with
    | nil => trivial
    | cons b l =>
      obtain ⟨k, s⟩ := b
      have := ih l (o + 2) h.2
      rw [show o + 2 * min (n + 1) ((k, s) :: l).length = o + 2 + 2 * min n l.length by simp; omega]
      exact this
/-- What a call of made hands back. -/
def MadeR (q : It × Nat) (w : World) (e : Ending) (w' : World) : Prop :=
  ∃ v, e = .returned (.tuple #[v, .int .i64 (q.2 : Nat)]) ∧ ItV (fun k => w.heap.size ≤ k ∧ k < w'.heap.size) q.1 v w' ∧ Below w.heap.size w w'
set_option maxRecDepth 100000 in
set_option maxHeartbeats 4000000 in
theorem made_nil (d : Nat) (a : Option Addr) (c : Nat) (z : Int) (w : World) : Calls Try.prog 11 #[.slice a 0 c, .int .i64 z] w (MadeR (madeP d []) w) := by
  have e : madeP d [] = (.text [], 0) := by cases d <;> rfl
  rw [e]
  go_enter Try.func11, Try.ntmps11
  go_wp2_with fail
  obtain ⟨⟨c0, c1, c2⟩, _⟩ := cells3 (heap_alloc_new w (.cells #[.bool false, .string ⟨#[]⟩, .slice none 0 0] 27))
  exact bodyPost_ret (v := .tuple #[.agg #[.bool false, .string ⟨#[]⟩, .slice none 0 0], .int .i64 0]) (by simp [results, Try.results11, go_sem, c0, c1, c2]) rfl ⟨_, rfl, rfl, bel_al _ _⟩
set_option maxRecDepth 100000 in
set_option maxHeartbeats 4000000 in
theorem made_text (k n : Nat) (s : List UInt8) (g o c : Nat) (z : Int) (w : World) (hn : 0 < n) (hkz : k % 2 = 0 ∨ 60 < z) (hg : g < w.heap.size) (h0 : w.cell? ⟨g, o, none⟩ = some (.int .u8 (k : Nat))) (h1 : w.cell? ⟨g, o + 1, none⟩ = some (.string (str s))) :
    Calls Try.prog 11 #[.slice (some ⟨g, o, none⟩) n c, .int .i64 z] w (MadeR (.text (s.take 300), 1) w) := by
  have hsz := str_size s
  have hmin : (min (((str s).size : Nat) : Int) 300).toNat = min (str s).size 300 := by omega
  have hsl : ∀ W, (Instr.slice 9 (.string (str s)) none (some (.int .i64 (min (((str s).size : Nat) : Int) 300))) none).run Try.prog W = .ok (.string (str (s.take 300))) W := fun W => by
    rw [run_slice_string_h W _ _ Try.underlying9 .i64 _ (by omega) (by omega), hmin, str_take, hsz, show s.take (min s.length 300) = s.take 300 from by first | exact List.take_eq_take_iff.2 (by omega) | (apply List.ext_getElem <;> simp; omega)]
  have hb := Below.heap_alloc w (.cells #[.bool false, .string ⟨#[]⟩, .slice none 0 0] 27) g hg
  have d0 := (World.cell?_of_block (a := ⟨g, o, none⟩) hb).trans h0
  have d1 := (World.cell?_of_block (a := ⟨g, o + 1, none⟩) hb).trans h1
  have hn0 : (0 : Int) ≤ 0 ∧ (0 : Int) < (n : Int) := by omega
  have hnn : ((n : Int) == 0) = false := beq_eq_false_iff_ne.2 (by omega)
  have hne : ¬ n = 0 := by omega
  have hn1 : (0 : Int) < (n : Int) := by omega
  clear hb hsz hmin
  go_enter Try.func11, Try.ntmps11
  go_wp2_with fail
  all_goals
    have hB0 : Below w.heap.size w (w.alloc (.cells #[.bool false, .string ⟨#[]⟩, .slice none 0 0] 27)) := bel_al w _
    have e0 : (w.alloc (.cells #[.bool false, .string ⟨#[]⟩, .slice none 0 0] 27)).heap[w.heap.size]? = some (.cells #[.bool false, .string ⟨#[]⟩, .slice none 0 0] 27 (0, 0)) := heap_alloc_new _ _
    generalize (w.alloc (.cells #[.bool false, .string ⟨#[]⟩, .slice none 0 0] 27)) = W0 at *
    go_still_tail 12, (by kernel_rfl)
    change wpList _ _ _ _ _ W0.drew
    have hB : Below w.heap.size w W0.drew := hB0.drew
    have e : W0.drew.heap[w.heap.size]? = some (.cells #[.bool false, .string ⟨#[]⟩, .slice none 0 0] 27 (0, 0)) := e0
    generalize W0.drew = W1 at *
    obtain ⟨⟨c0, c1, c2⟩, z0, z1, z2⟩ := cells3 e
    have hz := heap_set3 e (.bool false) (.string (str (s.take 300))) (.slice none 0 0)
    have hB2 := below_set3 hB (Nat.le_refl _) (.bool false) (.string (str (s.take 300))) (.slice none 0 0)
    have HF := Lib.hid (And.intro hz hB2)
    clear hz hB2 hB e d0 d1 hsl hB0 e0
    go_wp2_with fail
    obtain ⟨⟨y0, y1, y2⟩, _⟩ := cells3 HF.out.1
    exact bodyPost_ret (v := .tuple #[.agg #[.bool false, .string (str (s.take 300)), .slice none 0 0], .int .i64 1]) (by simp [results, Try.results11, go_sem, y0, y1, y2]) rfl ⟨_, rfl, rfl, HF.out.2⟩
end Go.Proofs.Ytgaaalacoeainaa
