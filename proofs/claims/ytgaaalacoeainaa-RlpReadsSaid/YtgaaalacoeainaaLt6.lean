/- How long what is shown is; what is known amid a law of items; the parts that a law is handed. -/
import Derived.Test.YtgaaalacoeainaaLt5
namespace Go.Proofs.Ytgaaalacoeainaa
open Go.RowKit

theorem encT_show (s : List UInt8) : 2 * s.length + 3 ≤ 5 * (encT s).length := by
  have h := encT_len s
  have h1 := encT_pos s
  by_cases h2 : s.length ≤ 1
  · omega
  · have h3 : 0 < (hdT s).length := by
      unfold hdT
      rw [if_neg]
      · exact hd_pos _ _
      · unfold bareL
        rcases s with _ | ⟨a, _ | ⟨b, s⟩⟩
        · simp at h2
        · simp at h2
        · simp
    omega
theorem Fo.sho_len (f : Fo) : ∀ g : List UInt8, (f.sho g).length ≤ g.length + 5 * f.enc.length := by
  induction f with
  | nil => intro g; simp [Fo.sho]
  | text s r ih =>
    intro g
    have h1 := ih [32]
    have h2 := encT_show s
    simp only [Fo.sho, Fo.enc, List.length_append, hexL_len, List.length_singleton] at h1 ⊢
    omega
  | list i r ih1 ih2 =>
    intro g
    have h1 := ih1 []
    have h2 := ih2 [32]
    have h3 := hd_pos 192 i.enc.length
    simp only [Fo.sho, Fo.enc, List.length_append, List.length_singleton, List.length_nil] at h1 h2 ⊢
    omega
theorem It.sho_len (x : It) : x.sho.length ≤ 5 * x.enc.length := by
  have h := (x.fo .nil).sho_len []
  rw [It.enc_fo'] at h
  cases x <;> simpa [It.sho, It.fo, Fo.sho] using h
theorem It.enc_pos (x : It) : 0 < x.enc.length := by
  cases x with
  | text s => exact encT_pos s
  | list i =>
    have := hd_pos 192 i.enc.length
    simp [It.enc]; omega

/-- What is known amid a law: blocks of items, and items, wherever they lie. -/
structure Kn (w : World) (L : List (Nat × Array Value)) (xs : List (It × Value)) (W : World) : Prop where
  below : Below w.heap.size w W
  blk : ∀ p ∈ L, W.heap[p.1]? = some (.cells p.2 27 (0, 0))
  its : ∀ q ∈ xs, ItV (fun k => k < W.heap.size) q.1 q.2 W
theorem Kn.call {w W W' : World} {L : List (Nat × Array Value)} {xs : List (It × Value)} (h : Kn w L xs W) (hb : Below W.heap.size W W') : Kn w L xs W' :=
  ⟨h.below.trans (hb.mono h.below.size), fun p hp => (hb.block _ (lt_of (h.blk p hp))).trans (h.blk p hp),
    fun q hq => ((h.its q hq).kept (W' := W') (fun k hk => hb.block k hk)).mono (fun _ hk => Nat.lt_of_lt_of_le hk hb.size)⟩
theorem Kn.new {w W W' : World} {L : List (Nat × Array Value)} {xs : List (It × Value)} (h : Kn w L xs W) (hb : Below W.heap.size W W') {x : It} {v : Value} {S : Nat → Prop} (hv : ItV S x v W') (hS : ∀ k, S k → k < W'.heap.size) : Kn w L ((x, v) :: xs) W' :=
  ⟨(h.call hb).below, (h.call hb).blk, fun q hq => by
    rcases List.mem_cons.1 hq with rfl | hq
    · exact hv.mono hS
    · exact (h.call hb).its q hq⟩
theorem Kn.box {w W : World} {L : List (Nat × Array Value)} {xs : List (It × Value)} (h : Kn w L xs W) (cs : Array Value) : Kn w ((W.heap.size, cs) :: L) xs (W.alloc (.cells cs 27)) := by
  have hc := h.call (bel_al W (.cells cs 27))
  refine ⟨hc.below, fun p hp => ?_, hc.its⟩
  rcases List.mem_cons.1 hp with rfl | hp
  · exact heap_alloc_new _ _
  · exact hc.blk p hp
theorem Kn.drew {w W : World} {L : List (Nat × Array Value)} {xs : List (It × Value)} (h : Kn w L xs W) : Kn w L xs W.drew := h.call (Below.refl _ _).drew
theorem Kn.it {w W : World} {L : List (Nat × Array Value)} {xs : List (It × Value)} (h : Kn w L xs W) {x : It} {v : Value} (hm : (x, v) ∈ xs) : ItV (fun k => k < W.heap.size) x v W := h.its _ hm
theorem Kn.start (w : World) : Kn w [] [] w := ⟨Below.refl _ _, by simp, by simp⟩
theorem Kn.cells {w W : World} {L : List (Nat × Array Value)} {xs : List (It × Value)} (h : Kn w L xs W) {b : Nat} {v0 v1 v2 : Value} (hm : (b, #[v0, v1, v2]) ∈ L) :
    W.cell? ⟨b, 0, none⟩ = some v0 ∧ W.cell? ⟨b, 1, none⟩ = some v1 ∧ W.cell? ⟨b, 2, none⟩ = some v2 := (cells3 (h.blk _ hm)).1

theorem PAt.take {W : World} {g : Nat} : ∀ (n : Nat) (l : List (Nat × List UInt8)) (o : Nat), PAt W g o l → PAt W g o (l.take n) := by
  intro n
  induction n with
  | zero => intro l o _; trivial
  | succ n ih =>
    intro l o h
    cases l with
    | nil => trivial
    | cons b l => exact ⟨h.1, ih l _ h.2⟩
/-- A slice of parts that a law is handed. -/
def Parts (W : World) (a : Option Addr) (c : Nat) (l : List (Nat × List UInt8)) : Prop :=
  l.length ≤ c ∧ (l = [] ∨ ∃ g o, a = some ⟨g, o, none⟩ ∧ g < W.heap.size ∧ PAt W g o l)
theorem Parts.later {W W' : World} {a : Option Addr} {c : Nat} {l : List (Nat × List UInt8)} (h : Parts W a c l) (hb : Below W.heap.size W W') : Parts W' a c l := by
  obtain ⟨h1, h2⟩ := h
  refine ⟨h1, ?_⟩
  rcases h2 with h2 | ⟨g, o, e, hg, hp⟩
  · exact Or.inl h2
  · exact Or.inr ⟨g, o, e, Nat.lt_of_lt_of_le hg hb.size, hp.kept (hb.block g hg)⟩
theorem Parts.cut {W : World} {a : Option Addr} {c : Nat} {l : List (Nat × List UInt8)} (h : Parts W a c l) :
    ∃ a', (∀ V, (Instr.slice 22 (.slice a l.length c) none (some (.int .i64 (min (l.length : Int) 60))) none).run Try.prog V = .ok (.slice a' (l.take 60).length c) V) ∧ Parts W a' c (l.take 60) := by
  obtain ⟨h1, h2⟩ := h
  have ht : Try.prog.underlying 22 = some (.slice (Try.prog.elem 22)) := by kernel_rfl
  have hs : ∀ w, (Go.sizeOf (Try.prog.elem 22)).run Try.prog w = .ok 2 w := fun w => by kernel_rfl
  have hn : (min (l.length : Int) 60).toNat = (l.take 60).length := by rw [List.length_take]; omega
  refine ⟨if c = 0 then a else a.map (·.add (0 * 2)), fun V => ?_, by rw [List.length_take]; omega, ?_⟩
  · rw [run_slice_h V _ _ _ _ ht .i64 _ (by omega) (by omega), hs, hn]
    simp [Result.andThen, sliced]
  · rcases h2 with rfl | ⟨g, o, rfl, hg, hp⟩
    · exact Or.inl rfl
    · refine Or.inr ⟨g, o, ?_, hg, hp.take _ _ _⟩
      split
      · rfl
      · simp [Addr.add]
theorem made_any {W : World} {a : Option Addr} {c : Nat} {l : List (Nat × List UInt8)} (h : Parts W a c l) (hl : l.length ≤ 60) : Calls Try.prog 11 #[.slice a l.length c, .int .i64 0] W (MadeR (madeP 61 l) W) := by
  obtain ⟨h1, h2⟩ := h
  rcases h2 with rfl | ⟨g, o, rfl, hg, hp⟩
  · exact made_nil 61 a c 0 W
  · exact made_c 61 (Nat.le_refl _) g o c l W hl h1 hg hp
end Go.Proofs.Ytgaaalacoeainaa
