/- Merged: Vo, Vs, RefA, Places, RefB, RefC, Vu. -/
import Derived.Test.YtceagpnonkmfdaaGreatM20
import Derived.Lib.ConvBytes
import Derived.StillTailTactics
import Derived.Test.YtceagpnonkmfdaaGreatM08
import Derived.Lib.SmallJoins
import Derived.Test.YtceagpnonkmfdaaGreatM01
import Derived.RegionTactic
import Derived.Test.YtceagpnonkmfdaaGreatM15
section
namespace Go.Proofs.YtceagpnonkmfdaaGreat
open Go.RowKit

theorem str_of' (s : ByteArray) : str s.data.toList = s := by cases s; simp [str]
theorem wzeros_of (N : Nat) (W : World) : (convert 142 9 (.slice (some ⟨W.heap.size, 0, none⟩) N N)).run Tryz.prog (W.alloc (.cells (madeCells #[.int .u8 0] N) 5)) = .ok (.string (str (List.replicate N 0))) (W.alloc (.cells (madeCells #[.int .u8 0] N) 5)) := by
  have h := run_convert_bytes_back (P := Tryz.prog) (W.alloc (.cells (madeCells #[.int .u8 0] N) 5)) 142 9 5 ⟨W.heap.size, 0, none⟩ N (List.replicate N 0) Tryz.underlying142 Tryz.underlying5 Tryz.underlying9 (fun j hj => by
    rw [List.length_replicate] at hj
    have e : (⟨W.heap.size, 0, none⟩ : Addr).add j = ⟨W.heap.size, j, none⟩ := by unfold Addr.add; split <;> simp_all
    rw [e, cell_of (heap_alloc_new W _) j, ← Array.getElem?_toList, toList_madeCells_one, List.getElem?_replicate, if_pos hj, List.getElem_replicate]
    rfl)
  rw [List.length_replicate] at h
  exact h
theorem wmake_zeros (W : World) : (Instr.makeSlice 142 (.int .i64 24577) (.int .i64 24577)).run Tryz.prog W = .ok (.slice (some ⟨W.heap.size, 0, none⟩) 24577 24577) (W.alloc (.cells (madeCells #[.int .u8 0] 24577) 5)) := by
  obtain ⟨i0, hi, hz0, hz1, hz2⟩ := info_parts infoByte
  have h := run_makeSlice (P := Tryz.prog) W 142 5 i0 _ Tryz.underlying142 hi hz0 .i64 .i64 24577 24577 (by omega) (by omega) (by rw [hz1]; decide) (by rw [hz2]; decide) (by decide)
  rw [hz1] at h
  exact h
def bothR : ReplyP := ⟨0, 1, 0, [], 1⟩
def longR (l : List UInt8) : ReplyP := ⟨0, 0, 0, l, 0⟩
theorem bothR_no : bothR.Wf ∧ ¬ bothR.Ok 1 := ⟨⟨by decide, by decide, by decide, by decide⟩, by decide⟩
theorem zeroR_no : ReplyP.zero.Wf ∧ ¬ ReplyP.zero.Ok 3 := ⟨⟨by decide, by decide, by decide, by decide⟩, by decide⟩
theorem longR_no {l : List UInt8} (h : 24576 < l.length) : (longR l).Wf ∧ ¬ (longR l).Ok 1 := ⟨⟨by show 0 < M64; decide, by show 0 < M64; decide, by show 0 < W256; decide, by show 0 < W256; decide⟩, fun k => by have : l.length ≤ 24576 := k.1; omega⟩
theorem bothR_v : replyV bothR = .agg #[.int .u64 0, .int .u64 1, .int .u64 0, .int .u64 0, .int .u64 0, .int .u64 0, .string ⟨#[]⟩, .int .u64 0, .int .u64 0, .int .u64 0, .int .u64 1] := by kernel_rfl
theorem zeroR_v : replyV ReplyP.zero = .agg #[.int .u64 0, .int .u64 0, .int .u64 0, .int .u64 0, .int .u64 0, .int .u64 0, .string ⟨#[]⟩, .int .u64 0, .int .u64 0, .int .u64 0, .int .u64 0] := by kernel_rfl
theorem longR_v (l : List UInt8) : replyV (longR l) = .agg #[.int .u64 0, .int .u64 0, .int .u64 0, .int .u64 0, .int .u64 0, .int .u64 0, .string (str l), .int .u64 0, .int .u64 0, .int .u64 0, .int .u64 0] := by
  unfold replyV longR
  simp [lim_zero]
theorem putAskV_is (a : AskP) : ∃ s, putAskV a = .tuple #[.string s, .bool (decide a.Ok)] := ⟨_, rfl⟩
end Go.Proofs.YtceagpnonkmfdaaGreat
end
section
namespace Go.Proofs.YtceagpnonkmfdaaGreat
open Go.RowKit

/-- Bytes in a block, that may be written. -/
def Bt (g n : Nat) (P : Nat → Nat) (W : World) : Prop := ∀ j, j < n → W.cell? ⟨g, j, none⟩ = some (.int .u8 (P j : Nat)) ∧ W.frozen? ⟨g, j, none⟩ = false
theorem Bt.later {g n : Nat} {P : Nat → Nat} {W W' : World} (h : Bt g n P W) (hg : g < W.heap.size) (hb : Below W.heap.size W W') : Bt g n P W' := fun j hj =>
  ⟨(World.cell?_of_block (hb.block g hg)).trans (h j hj).1, (World.frozen?_of_block (hb.block g hg)).trans (h j hj).2⟩
theorem Bt.set {g n : Nat} {P : Nat → Nat} {W : World} (h : Bt g n P W) {k : Nat} (hk : k < n) (v : Nat) : Bt g n (upd P k v) (W.setCell ⟨g, k, none⟩ (.int .u8 (v : Nat))) := fun j hj => by
  refine ⟨?_, by rw [World.frozen?_setCell]; exact (h j hj).2⟩
  by_cases e : j = k
  · subst e
    rw [World.cell?_setCell_same _ _ _ (h j hj).1, upd_same]
  · rw [World.cell?_setCell_other _ _ _ _ (by intro e'; injection e' with e1 e2; omega), upd_other _ _ e]
    exact (h j hj).1
theorem Bt.congr {g n : Nat} {P Q : Nat → Nat} {W : World} (h : Bt g n P W) (e : ∀ j, j < n → P j = Q j) : Bt g n Q W := fun j hj => by rw [← e j hj]; exact h j hj
theorem Bt.conv {g n : Nat} {P : Nat → Nat} {W : World} (h : Bt g n P W) (hP : ∀ j, P j < 256) (cap : Nat) :
    (convert 142 9 (.slice (some ⟨g, 0, none⟩) n cap)).run Tryz.prog W = .ok (.string (txt n P)) W := by
  have := Lib.run_convert_whole (P := Tryz.prog) W 142 5 9 Tryz.underlying142 Tryz.underlying5 Tryz.underlying9 g 0 (txt n P) (by
    intro i hi
    rw [txt_size] at hi
    have e : (txt n P)[i]'(by rw [txt_size]; exact hi) = UInt8.ofNat (P i) := by simp [txt, ByteArray.getElem_eq_getElem_data]
    rw [Nat.zero_add, (h i hi).1, e, UInt8.toNat_ofNat_of_lt' (hP i)]) cap
  rwa [txt_size] at this
theorem bytes_of (s : ByteArray) (w : World) :
    ∃ cap W, (convert 9 142 (.string s)).run Tryz.prog w = .ok (.slice (some ⟨w.heap.size, 0, none⟩) s.size cap) W ∧ Bt w.heap.size s.size (byteAtK s) W ∧ Below w.heap.size w W ∧ w.heap.size < W.heap.size := by
  refine ⟨_, _, Lib.run_convert_string_bytes (P := Tryz.prog) w 9 142 5 s Tryz.underlying9 Tryz.underlying142 Tryz.underlying5, ?_, ?_, ?_⟩
  · intro j hj
    refine ⟨?_, ?_⟩
    · rw [Lib.bytesWorld_cell w _ s j hj]
      unfold byteAtK
      rw [dif_pos hj]
      simp [List.getD, hj, ByteArray.getElem_eq_getElem_data]
    · have h := Lib.bytesWorld_at_new w 5 s
      have hsz : (Lib.bytesCells w 5 s).size ≥ s.size := by simp [Lib.bytesCells]
      simp [World.frozen?, h]
      try omega
  · exact ⟨rfl, rfl, rfl, Nat.le_of_lt (by rw [Lib.bytesWorld_size]; omega), fun k hk => Lib.bytesWorld_at_old w _ s k hk⟩
  · rw [Lib.bytesWorld_size]; omega
theorem txt_turn {s : List UInt8} {m X : Nat} (hX : X < 256) (hm : m < s.length) : txt s.length (upd (byteAtK (str s)) m (byteAtK (str s) m ^^^ X)) = str (turnB s m (UInt8.ofNat X)) := by
  rw [← txt_byteAt (str (turnB s m (UInt8.ofNat X))), str_size, turnB_len]
  refine txt_congr fun j hj => ?_
  rw [byteAt_strB, byteAt_strB]
  unfold upd turnB
  by_cases e : j = m
  · subst e
    rw [if_pos rfl]
    simp only [List.getD_eq_getElem?_getD, List.getElem?_set_self hj, Option.getD_some]
    rw [UInt8.toNat_xor, UInt8.toNat_ofNat_of_lt' hX]
  · rw [if_neg e, byteAt_strB]
    simp only [List.getD_eq_getElem?_getD]
    rw [List.getElem?_set_ne (by omega)]
theorem wpList_min2 {ops : Array Oper} {rest : List Oper} {o : Oper} {a : Act} {Q : Exit → Act → World → Prop} {W : World} (hgd : o.guard = none) (x y : Operand) (ts : Array TypeId)
    (ho : o.op = .call { callee := .builtin .min, args := #[x, y], argTypes := ts }) (i j : Int) (hx : a.eval x = .int .i64 i) (hy : a.eval y = .int .i64 j)
    (h : ∀ q : Int, q = (if j < i then j else i) → wpList Tryz.prog ops Q rest (a.put o.dst (.int .i64 q)) W) : wpList Tryz.prog ops Q (o :: rest) a W := by
  refine wpList_plain hgd fun K hK => ?_
  have hr := run_min_int2 (P := Tryz.prog) (w := W) ts o.type .i64 .i64 i j
  unfold Oper.wp execOp
  simp only [ho, resolve, invoke, builtin, Sem.run_bind, Sem.run_pure, Result.andThen_ok, List.map_toArray, List.map_cons, List.map_nil, hx, hy, hr]
  exact hK _ _ (h _ rfl)

/-- Blocks that stay as they are. -/
structure Kb (w : World) (L : List (Nat × Array Value × TypeId)) (W : World) : Prop where
  below : Below w.heap.size w W
  blk : ∀ p ∈ L, W.heap[p.1]? = some (.cells p.2.1 p.2.2 (0, 0))
section
variable {w W W' : World} {L : List (Nat × Array Value × TypeId)}
theorem Kb.call (h : Kb w L W) (hb : Below W.heap.size W W') : Kb w L W' :=
  ⟨h.below.trans (hb.mono h.below.size), fun p hp => (hb.block _ (lt_of (h.blk p hp))).trans (h.blk p hp)⟩
theorem Kb.box (h : Kb w L W) (cs : Array Value) (t : TypeId) : Kb w ((W.heap.size, cs, t) :: L) (W.alloc (.cells cs t)) := by
  have hc := h.call ((Below.refl _ _).alloc (Nat.le_refl _) (.cells cs t))
  refine ⟨hc.below, fun p hp => ?_⟩
  rcases List.mem_cons.1 hp with rfl | hp
  · exact heap_alloc_new _ _
  · exact hc.blk p hp
theorem Kb.at (h : Kb w L W) {b : Nat} (hb : W.heap.size = b) (cs : Array Value) (t : TypeId) : Kb w ((b, cs, t) :: L) (W.alloc (.cells cs t)) := hb ▸ h.box cs t
theorem Kb.sub {L' : List (Nat × Array Value × TypeId)} (h : Kb w L W) (hs : ∀ p ∈ L', p ∈ L) : Kb w L' W := ⟨h.below, fun p hp => h.blk p (hs p hp)⟩
theorem Kb.ne (h : Kb w L W) : ∀ p ∈ L, p.1 ≠ W.heap.size := fun p hp => Nat.ne_of_lt (lt_of (h.blk p hp))
theorem Kb.start (w : World) : Kb w [] w := ⟨Below.refl _ _, by simp⟩
theorem Kb.get (h : Kb w L W) {b : Nat} {cs : Array Value} {t : TypeId} (hm : (b, cs, t) ∈ L) : W.heap[b]? = some (.cells cs t (0, 0)) := h.blk _ hm
/-- A block that is not told of is written. -/
theorem Kb.set (h : Kb w L W) {b i : Nat} (hb : w.heap.size ≤ b) (hn : ∀ p ∈ L, p.1 ≠ b) (u : Value) : Kb w L (W.setCell ⟨b, i, none⟩ u) :=
  ⟨h.below.setCell (p := ⟨b, i, none⟩) hb u, fun p hp => (heap_setCell_other _ _ _ _ (by simpa using hn p hp)).trans (h.blk p hp)⟩
end
def backR (id n b : Nat) (c : List UInt8) : ReplyP := ⟨id, n, b, c.take 300, 0⟩
theorem backR_ok {id n b : Nat} {c : List UInt8} (hi : id < M64) (hn : n < M64) (hb : b < W256) : (backR id n b c).Wf ∧ (backR id n b c).Ok 1 :=
  ⟨⟨hi, hn, hb, by show 0 < W256; decide⟩, by show (c.take 300).length ≤ 24576; rw [List.length_take]; omega, Or.inl ⟨rfl, rfl⟩⟩
theorem backR_v (id n b : Nat) (c : List UInt8) : replyV (backR id n b c) = .agg #[.int .u64 id, .int .u64 n, .int .u64 (l3 b : Nat), .int .u64 (l2 b : Nat), .int .u64 (l1 b : Nat), .int .u64 (l0 b : Nat), .string (str (c.take 300)), .int .u64 0, .int .u64 0, .int .u64 0, .int .u64 0] := by
  unfold replyV backR
  simp [lim_zero]
theorem body_ne (kind : Int) (r : ReplyP) : 0 < (r.body kind).length := by
  unfold ReplyP.body ReplyP.it
  have h1 : (hd 192 (r.fo kind).enc.length ++ (r.fo kind).enc).length = (hd 192 (r.fo kind).enc.length).length + (r.fo kind).enc.length := List.length_append
  have h2 : 0 < (hd 192 (r.fo kind).enc.length).length := by unfold hd; split <;> simp
  show 0 < (hd 192 (r.fo kind).enc.length ++ (r.fo kind).enc).length
  omega

theorem bitF {L bit K M s : Nat} (hL : 5 ≤ L ∧ L ≤ 24707) (hK : K = bit % (8 * L)) (hM : M = K / 8) (hs : s = K % 8) :
    (wrap64 (8 * (L : Int)) = 8 * (L : Int) ∧ 8 * (L : Int) % 4294967296 = 8 * (L : Int) ∧ (bit : Int) % (8 * (L : Int)) = (K : Int) ∧ ¬ (8 * (L : Int)) = 0 ∧ wrap64 (K : Int) = (K : Int) ∧ ¬ (L : Int) < 5 ∧ 5 ≤ (L : Int)) ∧
    ((K : Int).tdiv 8 = (M : Int) ∧ (K : Int) / 8 = (M : Int) ∧ (K : Int).tmod 8 = (s : Int) ∧ (K : Int) % 8 = (s : Int) ∧ (M : Int) < (L : Int) ∧ (0 : Int) ≤ (M : Int) ∧ IntKind.i64.wrap (M : Int) = (M : Int) ∧ IntKind.i64.wrap (s : Int) = (s : Int)) ∧ M < L := by
  have hKlt : K < 8 * L := by rw [hK]; exact Nat.mod_lt _ (by omega)
  have hmod : (bit : Int) % (8 * (L : Int)) = (K : Int) := by rw [hK]; simp
  clear hK
  refine ⟨⟨IntWalk.wrap64_in _ (by omega), by omega, hmod, by omega, IntWalk.wrap64_in _ (by omega), by omega, by omega⟩, ⟨?_, by omega, ?_, by omega, by omega, by omega, IntWalk.i64_in _ (by omega), IntWalk.i64_in _ (by omega)⟩, by omega⟩
  · rw [Int.tdiv_eq_ediv_of_nonneg (by omega)]; omega
  · rw [Int.tmod_eq_emod_of_nonneg (by omega)]; omega
end Go.Proofs.YtceagpnonkmfdaaGreat
end
section
namespace Go.Proofs.YtceagpnonkmfdaaGreat
open Go.RowKit Go.Joins

theorem Tryz.infoInt : (Tryz.prog.info? 3).map (fun i => (i.zero, i.size, i.bytes)) = some (some (.int .i64 0), 1, 8) := by kernel_rfl

theorem ownsRow_below {w w1 : World} {base : Nat} {e : TypeId} {size : Nat} {v : Value} {n : Nat} {xs : List Value} (h : w.ownsRow base e size v n xs) (hb : Below w.heap.size w w1) : w1.ownsRow base e size v n xs :=
  h.kept (row := none) ⟨hb.os, hb.tape, hb.output, hb.size, fun k hk _ => hb.block k hk⟩ (by cases hv : v.ownBlock <;> simp)

theorem wrap_near (q : Int) : ∃ t : Int, IntKind.i64.wrap q = q + 256 * t := by
  refine ⟨-(72057594037927936 * ((q + 9223372036854775808) / 18446744073709551616)), ?_⟩
  rw [IntKind.wrap_i64]
  omega

theorem ownsRow_from {w : World} {base base' : Nat} {e : TypeId} {size : Nat} {v : Value} {n : Nat} {xs : List Value} (h : w.ownsRow base e size v n xs) (hb : base' ≤ base) : w.ownsRow base' e size v n xs := by
  refine ⟨h.1, ?_⟩
  rcases h.2 with h0 | ⟨g, cap, cur, h1, h2, h3⟩
  · exact .inl h0
  · exact .inr ⟨g, cap, cur, h1, by omega, h3⟩

/-- Byte j, as Digits first has it; as it has it at the end. -/
def rawAt (d0 d1 d2 d3 j : Nat) : Int := (IntKind.i64.wrap (((nth d0 d1 d2 d3 (j / 8) / 2 ^ (8 * (j % 8)) : Nat)) : Int)).tmod 256
theorem raw_byte {x d0 d1 d2 d3 j : Nat} (h : Dig x d0 d1 d2 d3) (hj : j < 32) : (rawAt d0 d1 d2 d3 j + 256).tmod 256 = (byteOf x j : Int) ∧ -256 < rawAt d0 d1 d2 d3 j ∧ rawAt d0 d1 d2 d3 j < 256 := by
  have e := byteIn_eq h hj
  unfold byteIn at e
  rw [← e]
  unfold rawAt
  rw [show j % 8 * 8 = 8 * (j % 8) by omega]
  generalize nth d0 d1 d2 d3 (j / 8) / 2 ^ (8 * (j % 8)) = q
  obtain ⟨t, ht⟩ := wrap_near (q : Int)
  rw [ht]
  generalize hv : (q : Int) + 256 * t = v
  have hm : v % 256 = (q : Int) % 256 := by omega
  clear hv ht e
  rcases Int.le_total 0 v with h0 | h0
  · rw [Int.tmod_eq_emod_of_nonneg h0, Int.tmod_eq_emod_of_nonneg (by omega)]
    omega
  · have h1 : v.tmod 256 = -((-v) % 256) := by
      rw [← Int.tmod_eq_emod_of_nonneg (show 0 ≤ -v by omega), Int.neg_tmod, Int.neg_neg]
    rw [h1, Int.tmod_eq_emod_of_nonneg (by omega)]
    omega

def rawsTo (d0 d1 d2 d3 n : Nat) : List Value := (List.range n).map fun j => Value.int .i64 (rawAt d0 d1 d2 d3 j)
theorem rawsTo_succ (d0 d1 d2 d3 n : Nat) : rawsTo d0 d1 d2 d3 (n + 1) = rawsTo d0 d1 d2 d3 n ++ [.int .i64 (rawAt d0 d1 d2 d3 n)] := by
  simp [rawsTo, List.range_succ]
/-- Digits' third loop: the first n are bytes. -/
def mixTo (x d0 d1 d2 d3 n : Nat) : List Value := (List.range 32).map fun j => Value.int .i64 (if j < n then (byteOf x j : Int) else rawAt d0 d1 d2 d3 j)
theorem mixTo_zero (x d0 d1 d2 d3 : Nat) : mixTo x d0 d1 d2 d3 0 = rawsTo d0 d1 d2 d3 32 := by simp [mixTo, rawsTo]
theorem mixTo_at (x d0 d1 d2 d3 n j : Nat) (hj : j < 32) : (mixTo x d0 d1 d2 d3 n)[j]? = some (.int .i64 (if j < n then (byteOf x j : Int) else rawAt d0 d1 d2 d3 j)) := by
  simp [mixTo, hj]
theorem mixTo_set (x d0 d1 d2 d3 n : Nat) (hn : n < 32) : (mixTo x d0 d1 d2 d3 n).set n (.int .i64 (byteOf x n : Int)) = mixTo x d0 d1 d2 d3 (n + 1) := by
  apply List.ext_getElem?
  intro j
  rw [List.getElem?_set]
  by_cases hj : j < 32
  · rw [mixTo_at _ _ _ _ _ _ _ hj, mixTo_at _ _ _ _ _ _ _ hj]
    by_cases e : n = j
    · subst e
      rw [if_pos rfl, if_pos (by simp [mixTo]; omega), if_pos (by omega)]
    · rw [if_neg e]
      by_cases h : j < n
      · rw [if_pos h, if_pos (by omega)]
      · rw [if_neg h, if_neg (by omega)]
  · have h1 : (mixTo x d0 d1 d2 d3 n)[j]? = none := by simp [mixTo]; omega
    have h2 : (mixTo x d0 d1 d2 d3 (n + 1))[j]? = none := by simp [mixTo]; omega
    rw [h1, h2, if_neg (by omega)]

/-- A number's bytes as ints, the lowest first. -/
def digs (x n : Nat) : List Value := (List.range n).map fun j => Value.int .i64 (byteOf x j : Int)
theorem mixTo_all (x d0 d1 d2 d3 : Nat) : mixTo x d0 d1 d2 d3 32 = digs x 32 := by
  unfold mixTo digs
  apply List.map_congr_left
  intro j hj
  rw [if_pos (by simpa using hj)]

def RetRow (n : Nat) (xs : List Value) (w : World) (e : Ending) (w' : World) : Prop :=
  ∃ v : Value, e = .returned v ∧ w'.ownsRow w.heap.size 3 1 v n xs ∧ Below w.heap.size w w'

/-- What Digits knows: the word's limbs in block B + 1, its row from block B + 2 on. -/
def DigsS (w : World) (d0 d1 d2 d3 : Nat) (n : Nat) (v : Value) (xs : List Value) (W : World) : Prop :=
  Below w.heap.size w W ∧ w.heap.size + 1 + 1 ≤ W.heap.size ∧ W.heap[w.heap.size + 1]? = some (.cells (four d0 d1 d2 d3) 41 (0, 0)) ∧ W.ownsRow (w.heap.size + 1 + 1) 3 1 v n xs

theorem digs_grown {w wr w1 : World} {d0 d1 d2 d3 n : Nat} {v v' : Value} {xs news : List Value} {o : Obj} (hB : Below w.heap.size w wr) (hle : w.heap.size + 1 + 1 ≤ wr.heap.size)
    (hl : wr.heap[w.heap.size + 1]? = some (.cells (four d0 d1 d2 d3) 41 (0, 0))) (hown : wr.ownsRow (w.heap.size + 1 + 1) 3 1 v n xs)
    (hg : (wr.alloc o).grownBy w1 v.ownBlock) {m : Nat} (hown' : w1.ownsRow (w.heap.size + 1 + 1) 3 1 v' m news) : DigsS w d0 d1 d2 d3 m v' news w1 := by
  have hne : some (w.heap.size + 1) ≠ v.ownBlock := fun h => by have := (hown.lt _ h.symm).1; omega
  have hs := hg.size
  rw [alloc_size] at hs
  refine ⟨(hB.alloc (by omega) o).grown hg (by rw [alloc_size]; omega) (fun j hj => by have := (hown.lt j hj).1; omega), by omega, ?_, hown'⟩
  rw [hg.block _ (by rw [alloc_size]; omega) hne]
  exact (Below.heap_alloc _ _ _ (by omega)).trans hl

set_option maxRecDepth 100000 in
set_option maxHeartbeats 4000000 in
theorem Digits_c {x d3 d2 d1 d0 : Nat} (hx : Dig x d0 d1 d2 d3) (w : World) :
    Calls Tryz.prog 89 #[.agg #[.int .u64 d3, .int .u64 d2, .int .u64 d1, .int .u64 d0]] w (RetRow 32 (digs x 32) w) := by
  have HX := Lib.hid hx; clear hx
  obtain ⟨i0, hi, hz0, hz1, hz2⟩ := info_parts Tryz.infoInt
  go_enter Tryz.func89, Tryz.ntmps89
  go_wp2_with fail
  have H0 := Lib.hid (show DigsS w d0 d1 d2 d3 0 (.slice none 0 0) (rawsTo d0 d1 d2 d3 0) _ from ⟨((Below.refl w.heap.size w).alloc (Nat.le_refl _) (.cells #[.int .u64 d3, .int .u64 d2, .int .u64 d1, .int .u64 d0] 51)).alloc (by simp) (.cells (four d0 d1 d2 d3) 41), by simp, heap_alloc2_new _ _ _, World.ownsRow_nil _ _ _ _⟩)
  go_loopw [3, 5] (fun v i wr => ∃ k : Nat, i = .int .i64 k ∧ k ≤ 4 ∧ DigsS w d0 d1 d2 d3 (8 * k) v (rawsTo d0 d1 d2 d3 (8 * k)) wr) (fun _ i _ => 4 - (intOf i).toNat)
  case atStart => exact ⟨0, rfl, by omega, H0.out⟩
  case round =>
    clear H0
    obtain ⟨i, rfl, hi4, hS⟩ := hrel
    by_cases hlt : i < 4
    · have hS0 := Lib.hid hS; clear hS
      obtain ⟨wo, rfl⟩ : ∃ wo : World, wo = wr := ⟨_, rfl⟩
      have hd1 : decide ((i : Int) < 4) = true := by simp; omega
      have hd2 : decide (i < 4) = true := by simp; omega
      go_wp2_with fail
      go_loopw [3, 6] (fun v k wr => ∃ j : Nat, k = .int .i64 j ∧ j ≤ 8 ∧ DigsS w d0 d1 d2 d3 (8 * i + j) v (rawsTo d0 d1 d2 d3 (8 * i + j)) wr) (fun _ k _ => 8 - (intOf k).toNat)
      case atStart => exact ⟨0, rfl, by omega, hS0.out⟩
      case round =>
        clear hS0
        obtain ⟨j, rfl, hj8, hB, hle, hl, hown⟩ := hrel
        by_cases hjl : j < 8
        · have hc := (cell_of hl i).trans (four_at _ _ _ _ i hlt)
          have hr : rawAt d0 d1 d2 d3 (8 * i + j) = (IntKind.i64.wrap (((nth d0 d1 d2 d3 i / 2 ^ (8 * j) : Nat)) : Int)).tmod 256 := by
            unfold rawAt; rw [show (8 * i + j) / 8 = i by omega, show (8 * i + j) % 8 = j by omega]
          have HR := Lib.hid (rawsTo_succ d0 d1 d2 d3 (8 * i + j))
          rw [hr] at HR
          have hrw : (wrap64 ((nth d0 d1 d2 d3 i : Int) / 2 ^ (8 * j))).tmod 256 = (IntKind.i64.wrap (((nth d0 d1 d2 d3 i / 2 ^ (8 * j) : Nat)) : Int)).tmod 256 := by simp [wrap64, IntKind.wrap_i64]
          clear hr
          generalize (IntKind.i64.wrap (((nth d0 d1 d2 d3 i / 2 ^ (8 * j) : Nat)) : Int)).tmod 256 = r at *
          generalize nth d0 d1 d2 d3 i = y at *
          have HB := Lib.hid hB; have HL := Lib.hid hl; have HO := Lib.hid hown
          clear hB hl hown
          go_wp2_with (at_builtin; refine wpList_append_own _ rfl _ _ 172 rfl (w.heap.size + 1 + 1) 3 i0 (.int .i64 0) 1 8 Tryz.underlying172 hi hz0 hz1 hz2 rfl (by decide) _ _ _ rfl (HO.out.alloc _) ⟨wr.heap.size, 0, none⟩ 1 1 [.int .i64 r] rfl rfl ?c1 ?c2 ?c3 ?c4 ?c5 ?_)
          case c1 =>
            intro j u hj
            match j, hj with
            | 0, hj => simp at hj; subst hj; simp [Addr.add]
          case c2 => intro u hu; simp at hu; subst hu; rfl
          case c3 => unfold maxLen; omega
          case c4 => omega
          case c5 => simp; omega
          intro v' w1 hown' hgrow _
          have HE := Lib.hid (digs_grown HB.out hle HL.out HO.out hgrow hown')
          rw [show rawsTo d0 d1 d2 d3 (8 * i + j) ++ [.int .i64 r] = rawsTo d0 d1 d2 d3 (8 * i + j + 1) from HR.out.symm] at HE
          clear hown' hgrow HB HL HO hc hrw
          go_wp2_with fail
          go_roundw
          case rel => exact ⟨j + 1, by go_num, by omega, HE.out⟩
          case measure => simp [intOf]; omega
        · obtain rfl : j = 8 := by omega
          have HS := Lib.hid (show DigsS w d0 d1 d2 d3 (8 * (i + 1)) _ (rawsTo d0 d1 d2 d3 (8 * (i + 1))) wr from ⟨hB, hle, hl, by rw [show 8 * (i + 1) = 8 * i + 8 by omega]; exact hown⟩)
          clear hB hl hown
          go_wp2_with fail
          go_roundw
          case rel => exact ⟨i + 1, by go_num, by omega, HS.out⟩
          case measure => simp [intOf]; omega
    · obtain rfl : i = 4 := by omega
      obtain ⟨hB, hle, hl, hown⟩ := hS
      rw [← mixTo_zero x] at hown
      obtain ⟨g, cap, rfl⟩ := ownsRow_form hown (by omega)
      have HS := Lib.hid (And.intro hB (And.intro hle hown))
      clear hB hl hown
      go_wp2_with fail
      go_loopw [7] (fun i wr => ∃ k : Nat, i = .int .i64 k ∧ k ≤ 32 ∧ Below w.heap.size w wr ∧ w.heap.size + 1 + 1 ≤ wr.heap.size ∧ wr.ownsRow (w.heap.size + 1 + 1) 3 1 (.slice (some ⟨g, 0, none⟩) 32 cap) 32 (mixTo x d0 d1 d2 d3 k)) (fun i _ => 32 - (intOf i).toNat)
      case atStart => exact ⟨0, rfl, by omega, HS.out.1, HS.out.2.1, HS.out.2.2⟩
      case round =>
        clear HS
        obtain ⟨k, rfl, hk, hB, hle, hown⟩ := hrel
        by_cases hlt : k < 32
        · have hc := (hown.cellAt k (by omega)).trans (mixTo_at _ _ _ _ _ _ _ hlt)
          rw [if_neg (by omega)] at hc
          have hf := hown.frozenAt k
          obtain ⟨hb, hr1, hr2⟩ := raw_byte HX.out hlt
          have hbl : byteOf x k < 256 := Nat.mod_lt _ (by decide)
          have hst := hown.stored k (.int .i64 (byteOf x k : Int))
          rw [mixTo_set _ _ _ _ _ _ hlt] at hst
          have hlt2 := (hown.lt g rfl)
          have HE := Lib.hid (And.intro (show Below w.heap.size w (wr.setCell ⟨g, k, none⟩ (.int .i64 (byteOf x k : Int))) from hB.setCell (by show w.heap.size ≤ g; omega) _) (And.intro (show w.heap.size + 1 + 1 ≤ (wr.setCell ⟨g, k, none⟩ (.int .i64 (byteOf x k : Int))).heap.size by simpa using hle) hst.1))
          clear hst hB hown
          generalize rawAt d0 d1 d2 d3 k = r at *
          generalize byteOf x k = b at *
          have hw : IntKind.i64.wrap (r + 256) = r + 256 := IntWalk.i64_in _ (by omega)
          go_wp2_with fail
          go_roundw
          case rel => exact ⟨k + 1, by go_num, by omega, HE.out.1, HE.out.2.1, HE.out.2.2⟩
          case measure => simp [intOf]; omega
        · obtain rfl : k = 32 := by omega
          rw [mixTo_all] at hown
          have HO := Lib.hid hown; have HB := Lib.hid hB
          clear hown hB
          go_wp2_with fail
          go_ret
          exact ⟨_, rfl, ownsRow_from HO.out (by omega), HB.out⟩

end Go.Proofs.YtceagpnonkmfdaaGreat
end
section
namespace Go.Proofs.YtceagpnonkmfdaaGreat
open Go.RowKit
attribute [local go_sem ↓] Go.wp_at_zero Go.wp_at_succ

theorem Fr.c5 {w W : World} {B N : Nat} {L : List (Nat × Array Value × TypeId)} (h : Fr w B N L W) {b : Nat} {v0 v1 v2 v3 : Value} {t : TypeId} (hm : (b, #[v0, v1, v2, v3], t) ∈ L) :
    W.cell? ⟨b, 0, none⟩ = some v0 ∧ W.cell? ⟨b, 1, none⟩ = some v1 ∧ W.cell? ⟨b, 2, none⟩ = some v2 ∧ W.cell? ⟨b, 3, none⟩ = some v3 :=
  (cells4 (h.know _ hm).2).1

theorem dig_one {n : Nat} (h : n < M64) : Dig n n 0 0 0 := ⟨h, by decide, by decide, by decide, by simp⟩
theorem low_of {x a3 a2 a1 a0 : Nat} (hx : Dig x a0 a1 a2 a3) (h : x < M64) : x = a0 := by
  obtain ⟨h0, h1, h2, h3, rfl⟩ := hx
  unfold M64 at *
  omega

end Go.Proofs.YtceagpnonkmfdaaGreat
end
section
namespace Go.Proofs.YtceagpnonkmfdaaGreat
open Go.RowKit Go.Joins

/-- The number of the first k bytes. -/
def lowB (b : Nat → Nat) : Nat → Nat
  | 0 => 0
  | k + 1 => lowB b k + b k * 256 ^ k
theorem lowB_byte (y k : Nat) : lowB (byteOf y) k = y % 256 ^ k := by
  induction k with
  | zero => simp [lowB, Nat.mod_one]
  | succ k ih =>
    simp only [lowB, ih]
    rw [Nat.mod_pow_succ, byteOf, Nat.mul_comm]

/-- What Join knows at the head of a round. -/
def JoinRel (w : World) (b : Nat → Nat) (k : Nat) (W : World) : Prop :=
  ∃ d0 d1 d2 d3, Dig (lowB b k) d0 d1 d2 d3 ∧ lowB b k < 256 ^ k ∧ Fr w w.heap.size (w.heap.size + 1) [(w.heap.size, #[.int .u64 0, .int .u64 0, .int .u64 0, .int .u64 0], 51)] W ∧ W.heap[w.heap.size + 1]? = some (.cells (four d0 d1 d2 d3) 41 (0, 0))

set_option maxRecDepth 100000 in
set_option maxHeartbeats 4000000 in
theorem Join_c {b : Nat → Nat} {n g cap : Nat} (hn : 32 ≤ n) (hcap : n ≤ maxLen) (w : World) (hg : g < w.heap.size) (hx : ∀ j, j < 32 → w.cell? ⟨g, j, none⟩ = some (.int .i64 (b j : Nat))) (hb : ∀ j, b j < 256) :
    Calls Tryz.prog 87 #[.slice (some ⟨g, 0, none⟩) n cap] w (RetD (lowB b 32) w) := by
  unfold maxLen at hcap
  have H := Fr.one w #[.int .u64 0, .int .u64 0, .int .u64 0, .int .u64 0] 51
  have H0 := Lib.hid (show JoinRel w b 0 _ from ⟨0, 0, 0, 0, ⟨by decide, by decide, by decide, by decide, rfl⟩, by simp [lowB], H.alloc (.cells (four 0 0 0 0) 41), by rw [← alloc_size w (.cells #[.int .u64 0, .int .u64 0, .int .u64 0, .int .u64 0] 51)]; exact heap_alloc_new _ _⟩)
  have HX := Lib.hid hx; clear hx H
  have hmk : ∀ w : World, (Instr.makeSlice 210 (.int .i64 4) (.int .i64 4)).run Tryz.prog w = .ok (.slice (some ⟨w.heap.size, 0, none⟩) 4 4) (w.alloc (.cells #[.int .u64 0, .int .u64 0, .int .u64 0, .int .u64 0] 41)) := fun _ => by kernel_rfl
  go_enter Tryz.func87, Tryz.ntmps87
  go_wp2_with fail
  go_loopw [4] (fun i wr => ∃ k : Nat, i = .int .i64 k ∧ k ≤ 32 ∧ JoinRel w b k wr) (fun i _ => 32 - (intOf i).toNat)
  case atStart => exact ⟨0, rfl, by omega, H0.out⟩
  case round =>
    clear H0
    obtain ⟨k, rfl, hk32, d0, d1, d2, d3, hD, hv, hF, hl⟩ := hrel
    have hnk : (32 : Int) ≤ (n : Int) := by omega
    by_cases hk : k < 32
    · have hbk := hb k
      have HL := Lib.hid (show lowB b (k + 1) = lowB b k + b k * 256 ^ k from rfl)
      have hcx : wr.cell? ⟨g, k, none⟩ = some (.int .i64 (b k : Nat)) := (hF.below.cell (p := ⟨g, k, none⟩) hg).trans (HX.out k hk)
      generalize b k = bb at *
      obtain ⟨p1, p2, p3, e0, e1, e2, e3, p4, p5⟩ := of_step hD hv (by omega) hbk
      have g5 : (0 : Int) ≤ (k : Int) / 8 := by omega
      have g6 : (k : Int) / 8 < 4 := by omega
      have c1 := (cell_of hl (k / 8)).trans (four_at _ _ _ _ _ (by omega))
      have f1 := free_of hl (k / 8)
      have hdm : nth d0 d1 d2 d3 (k / 8) < M64 := hD.nth _
      have ho : Go.bits .or .u64 (nth d0 d1 d2 d3 (k / 8) : Int) (IntKind.u64.wrap ((bb : Int) * 2 ^ (8 * (k % 8)))) = ((nth d0 d1 d2 d3 (k / 8) + bb * 2 ^ (k % 8 * 8) : Nat) : Int) := by
        have e1 : ((bb : Int) * 2 ^ (8 * (k % 8))) = ((bb * 2 ^ (k % 8 * 8) : Nat) : Int) := by rw [Nat.mul_comm (k % 8)]; simp
        rw [e1, wrap_nat _ p2, or64 _ _ hdm p2, or_add _ _ _ p1]
      have hlt1 : decide ((k : Int) < 32) = true := by simp; omega
      have hlt2 : decide ((k : Int) < (n : Int)) = true := by simp; omega
      have hlt3 : decide (k < n) = true := by simp; omega
      have hwb : IntKind.u64.wrap (bb : Int) = (bb : Int) := wrap_nat _ (by unfold M64; omega)
      have HP := Lib.hid p5; have HV := Lib.hid p3; have HD := Lib.hid p4; have Hl := Lib.hid hl; have HF := Lib.hid hF
      clear p1 p2 p3 p4 p5 hl hF hdm hv hD
      generalize nth d0 d1 d2 d3 (k / 8) + bb * 2 ^ (k % 8 * 8) = z at *
      generalize nth d0 d1 d2 d3 (k / 8) = d at *
      go_wp2_with fail
      go_region
      go_wp2_with fail
      go_roundw
      case rel =>
        refine ⟨k + 1, by go_num, by omega, e0, e1, e2, e3, by rw [HL.out]; exact HD.out, by rw [HL.out]; exact HV.out, (HF.out.set (by simp) _).drew, ?_⟩
        exact (heap_setCell_same _ _ _ _ _ _ Hl.out).trans (by rw [HP.out])
      case measure => simp [intOf]; omega
    · obtain rfl : k = 32 := by omega
      obtain ⟨c, _⟩ := cells4 hl
      have k0 := (hF.know _ (.head _)).2
      have k1 := cells4 k0
      have n0 := hF.lt (.head _)
      have HF := Lib.hid hF; have HD := Lib.hid hD; have K0 := Lib.hid k0
      clear hl hF hD hv k0 HX hb
      go_wp2_with fail
      go_region
      go_wp2_with fail
      exact bodyPost_ret (results_cell_row Tryz.results87 _ _ _ _ _ _ _ rfl (heap_set4 K0.out _ _ _ _) Tryz.underlying51 rfl (by kernel_rfl)) rfl
        ⟨_, _, _, _, rfl, HD.out, (below_set4 HF.out.below (by omega) _ _ _ _).drew⟩

end Go.Proofs.YtceagpnonkmfdaaGreat
end
section
namespace Go.Proofs.YtceagpnonkmfdaaGreat
open Go.RowKit Go.Joins

/-- A slice that holds the n bytes b, as ints. -/
def BytesRow (w : World) (v : Value) (n : Nat) (b : Nat → Nat) : Prop :=
  ∃ g cap, v = .slice (some ⟨g, 0, none⟩) n cap ∧ g < w.heap.size ∧ ∀ j, j < n → w.cell? ⟨g, j, none⟩ = some (.int .i64 (b j : Nat))
theorem BytesRow.call {w w1 : World} {v : Value} {n : Nat} {b : Nat → Nat} (h : BytesRow w v n b) (hb : Below w.heap.size w w1) : BytesRow w1 v n b := by
  obtain ⟨g, cap, rfl, hg, hc⟩ := h
  exact ⟨g, cap, rfl, Nat.lt_of_lt_of_le hg hb.size, fun j hj => (hb.cell (p := ⟨g, j, none⟩) hg).trans (hc j hj)⟩
theorem BytesRow.of_owns {w : World} {base : Nat} {v : Value} {n : Nat} {b : Nat → Nat} (h : w.ownsRow base 3 1 v n ((List.range n).map fun j => Value.int .i64 (b j : Nat))) (hn : 0 < n) : BytesRow w v n b := by
  obtain ⟨g, cap, rfl⟩ := ownsRow_form h hn
  refine ⟨g, cap, rfl, (h.lt g rfl).2, fun j hj => ?_⟩
  rw [h.cellAt j (by omega)]
  simp [hj]
def RetBytes (n : Nat) (b : Nat → Nat) (w : World) (e : Ending) (w' : World) : Prop :=
  ∃ v : Value, e = .returned v ∧ BytesRow w' v n b ∧ Below w.heap.size w w'

theorem Digits_b {x d3 d2 d1 d0 : Nat} (hx : Dig x d0 d1 d2 d3) (w : World) :
    Calls Tryz.prog 89 #[.agg #[.int .u64 d3, .int .u64 d2, .int .u64 d1, .int .u64 d0]] w (RetBytes 32 (byteOf x) w) := by
  refine (Digits_c hx w).mono ?_
  rintro e w' ⟨v, rfl, ho, hb⟩
  exact ⟨v, rfl, BytesRow.of_owns ho (by decide), hb⟩
theorem Join_b {b : Nat → Nat} {n : Nat} {v : Value} (hn : 32 ≤ n) (hcap : n ≤ maxLen) (w : World) (hv : BytesRow w v n b) (hb : ∀ j, b j < 256) :
    Calls Tryz.prog 87 #[v] w (RetD (lowB b 32) w) := by
  obtain ⟨g, cap, rfl, hg, hc⟩ := hv
  exact Join_c hn hcap w hg (fun j hj => hc j (by omega)) hb

/-- A list's byte, 0 past its end; what is carried into byte k of a sum; byte k of it. -/
def upTo (n : Nat) (b : Nat → Nat) (j : Nat) : Nat := if j < n then b j else 0
def cry (a b : Nat → Nat) : Nat → Nat
  | 0 => 0
  | k + 1 => (cry a b k + a k + b k) / 256
def sumAt (a b : Nat → Nat) (k : Nat) : Nat := (cry a b k + a k + b k) % 256
theorem sumAt_lt (a b : Nat → Nat) (k : Nat) : sumAt a b k < 256 := Nat.mod_lt _ (by decide)
theorem cry_le {a b : Nat → Nat} (ha : ∀ j, a j < 256) (hb : ∀ j, b j < 256) (k : Nat) : cry a b k ≤ 1 := by
  induction k with
  | zero => simp [cry]
  | succ k ih => have := ha k; have := hb k; simp only [cry]; omega
theorem sum_low (a b : Nat → Nat) (k : Nat) : lowB (sumAt a b) k + cry a b k * 256 ^ k = lowB a k + lowB b k := by
  induction k with
  | zero => simp [lowB, cry]
  | succ k ih =>
    simp only [lowB, cry, sumAt]
    have e := Nat.mod_add_div (cry a b k + a k + b k) 256
    have h2 : (cry a b k + a k + b k) * 256 ^ k = cry a b k * 256 ^ k + a k * 256 ^ k + b k * 256 ^ k := by rw [Nat.add_mul, Nat.add_mul]
    have h3 : ((cry a b k + a k + b k) % 256 + 256 * ((cry a b k + a k + b k) / 256)) * 256 ^ k = (cry a b k + a k + b k) * 256 ^ k := by rw [e]
    rw [Nat.add_mul, Nat.mul_comm 256, Nat.mul_assoc, ← Nat.pow_succ'] at h3
    rw [Nat.pow_succ'] at h3 ⊢
    omega

def sumsTo (a b : Nat → Nat) (n : Nat) : List Value := (List.range n).map fun j => Value.int .i64 (sumAt a b j : Nat)
theorem sumsTo_succ (a b : Nat → Nat) (n : Nat) : sumsTo a b (n + 1) = sumsTo a b n ++ [.int .i64 (sumAt a b n : Nat)] := by
  simp [sumsTo, List.range_succ]

theorem below_grown {w wr w1 : World} {n : Nat} {v : Value} {xs : List Value} {o : Obj} (hB : Below w.heap.size w wr) (hown : wr.ownsRow w.heap.size 3 1 v n xs)
    (hg : (wr.alloc o).grownBy w1 v.ownBlock) : Below w.heap.size w w1 := by
  have hs := hB.size
  exact (hB.alloc hs o).grown hg (by rw [alloc_size]; omega) (fun j hj => by have := (hown.lt j hj).1; omega)

end Go.Proofs.YtceagpnonkmfdaaGreat
end
section
namespace Go.Proofs.YtceagpnonkmfdaaGreat
open Go.RowKit Go.Joins

set_option maxRecDepth 100000 in
set_option maxHeartbeats 4000000 in
theorem JoinS_c {b : Nat → Nat} {n cap : Nat} {a : Option Addr} (hn : n ≤ 32) (w : World) (hx : ∀ j, j < n → ∃ g, a = some ⟨g, 0, none⟩ ∧ g < w.heap.size ∧ w.cell? ⟨g, j, none⟩ = some (.int .i64 (b j : Nat))) (hb : ∀ j, b j < 256) :
    Calls Tryz.prog 87 #[.slice a n cap] w (RetD (lowB b n) w) := by
  have H := Fr.one w #[.int .u64 0, .int .u64 0, .int .u64 0, .int .u64 0] 51
  have H0 := Lib.hid (show JoinRel w b 0 _ from ⟨0, 0, 0, 0, ⟨by decide, by decide, by decide, by decide, rfl⟩, by simp [lowB], H.alloc (.cells (four 0 0 0 0) 41), by rw [← alloc_size w (.cells #[.int .u64 0, .int .u64 0, .int .u64 0, .int .u64 0] 51)]; exact heap_alloc_new _ _⟩)
  have HX := Lib.hid hx; clear hx H
  have hmk : ∀ w : World, (Instr.makeSlice 210 (.int .i64 4) (.int .i64 4)).run Tryz.prog w = .ok (.slice (some ⟨w.heap.size, 0, none⟩) 4 4) (w.alloc (.cells #[.int .u64 0, .int .u64 0, .int .u64 0, .int .u64 0] 41)) := fun _ => by kernel_rfl
  go_enter Tryz.func87, Tryz.ntmps87
  go_wp2_with fail
  go_loopw [4] (fun i wr => ∃ k : Nat, i = .int .i64 k ∧ k ≤ n ∧ JoinRel w b k wr) (fun i _ => n - (intOf i).toNat)
  case atStart => exact ⟨0, rfl, by omega, H0.out⟩
  case round =>
    clear H0
    obtain ⟨k, rfl, hk32, d0, d1, d2, d3, hD, hv, hF, hl⟩ := hrel
    by_cases hk : k < n
    · have hbk := hb k
      have HL := Lib.hid (show lowB b (k + 1) = lowB b k + b k * 256 ^ k from rfl)
      obtain ⟨g, rfl, hg, hcx0⟩ := HX.out k hk
      have hcx : wr.cell? ⟨g, k, none⟩ = some (.int .i64 (b k : Nat)) := (hF.below.cell (p := ⟨g, k, none⟩) hg).trans hcx0
      clear hcx0
      generalize b k = bb at *
      obtain ⟨p1, p2, p3, e0, e1, e2, e3, p4, p5⟩ := of_step hD hv (by omega) hbk
      have g5 : (0 : Int) ≤ (k : Int) / 8 := by omega
      have g6 : (k : Int) / 8 < 4 := by omega
      have c1 := (cell_of hl (k / 8)).trans (four_at _ _ _ _ _ (by omega))
      have f1 := free_of hl (k / 8)
      have hdm : nth d0 d1 d2 d3 (k / 8) < M64 := hD.nth _
      have ho : Go.bits .or .u64 (nth d0 d1 d2 d3 (k / 8) : Int) (IntKind.u64.wrap ((bb : Int) * 2 ^ (8 * (k % 8)))) = ((nth d0 d1 d2 d3 (k / 8) + bb * 2 ^ (k % 8 * 8) : Nat) : Int) := by
        have e1 : ((bb : Int) * 2 ^ (8 * (k % 8))) = ((bb * 2 ^ (k % 8 * 8) : Nat) : Int) := by rw [Nat.mul_comm (k % 8)]; simp
        rw [e1, wrap_nat _ p2, or64 _ _ hdm p2, or_add _ _ _ p1]
      have hlt1 : decide ((k : Int) < 32) = true := by simp; omega
      have hlt2 : decide ((k : Int) < (n : Int)) = true := by simp; omega
      have hlt3 : decide (k < n) = true := by simp; omega
      have hwb : IntKind.u64.wrap (bb : Int) = (bb : Int) := wrap_nat _ (by unfold M64; omega)
      have HP := Lib.hid p5; have HV := Lib.hid p3; have HD := Lib.hid p4; have Hl := Lib.hid hl; have HF := Lib.hid hF
      clear p1 p2 p3 p4 p5 hl hF hdm hv hD
      generalize nth d0 d1 d2 d3 (k / 8) + bb * 2 ^ (k % 8 * 8) = z at *
      generalize nth d0 d1 d2 d3 (k / 8) = d at *
      go_wp2_with fail
      go_region
      go_wp2_with fail
      go_roundw
      case rel =>
        refine ⟨k + 1, by go_num, by omega, e0, e1, e2, e3, by rw [HL.out]; exact HD.out, by rw [HL.out]; exact HV.out, (HF.out.set (by simp) _).drew, ?_⟩
        exact (heap_setCell_same _ _ _ _ _ _ Hl.out).trans (by rw [HP.out])
      case measure => simp [intOf]; omega
    · obtain rfl : k = n := by omega
      obtain ⟨c, _⟩ := cells4 hl
      have k0 := (hF.know _ (.head _)).2
      have k1 := cells4 k0
      have n0 := hF.lt (.head _)
      have HF := Lib.hid hF; have HD := Lib.hid hD; have K0 := Lib.hid k0
      have hlt2 : decide ((k : Int) < (k : Int)) = false := by simp
      clear hl hF hD hv k0 HX hb
      by_cases h32 : k < 32
      · have hlt1 : decide ((k : Int) < 32) = true := by simp; omega
        go_wp2_with fail
        go_region
        go_wp2_with fail
        exact bodyPost_ret (results_cell_row Tryz.results87 _ _ _ _ _ _ _ rfl (heap_set4 K0.out _ _ _ _) Tryz.underlying51 rfl (by kernel_rfl)) rfl
          ⟨_, _, _, _, rfl, HD.out, (below_set4 HF.out.below (by omega) _ _ _ _).drew⟩
      · have hlt1 : decide ((k : Int) < 32) = false := by simp; omega
        go_wp2_with fail
        go_region
        go_wp2_with fail
        exact bodyPost_ret (results_cell_row Tryz.results87 _ _ _ _ _ _ _ rfl (heap_set4 K0.out _ _ _ _) Tryz.underlying51 rfl (by kernel_rfl)) rfl
          ⟨_, _, _, _, rfl, HD.out, (below_set4 HF.out.below (by omega) _ _ _ _).drew⟩
def rbP (x k j : Nat) : Nat := if j < k then byteOf x (31 - j) else 0
theorem rbP_zero (x : Nat) : rbP x 0 = fun _ => 0 := by funext j; unfold rbP; rw [if_neg (by omega)]
theorem rbP_step (x k j : Nat) : upd (rbP x k) k (byteOf x (31 - k)) j = rbP x (k + 1) j := by
  unfold upd rbP
  by_cases e : j = k
  · subst e; rw [if_pos rfl, if_pos (by omega)]
  · rw [if_neg e]
    by_cases h : j < k
    · rw [if_pos h, if_pos (by omega)]
    · rw [if_neg h, if_neg (by omega)]
theorem byteOf_lt (x j : Nat) : byteOf x j < 256 := Nat.mod_lt _ (by decide)
theorem rbP_lt (x k j : Nat) : rbP x k j < 256 := by
  unfold rbP; split
  · exact byteOf_lt _ _
  · omega
theorem rbP_all (x : Nat) : txt 32 (rbP x 32) = str (wordL x) := by
  have h := txt_byteAt (bytesOf x)
  rw [bytesOf_size] at h
  rw [← bytesOf_str, ← h]
  refine txt_congr fun j hj => ?_
  have h1 := byteAt_bytes x j hj
  have h2 : byteAtK (bytesOf x) j = byteAt (bytesOf x) j := rfl
  rw [h2, h1]
  unfold rbP
  rw [if_pos hj]
theorem rmake32 (W : World) : (Instr.makeSlice 142 (.int .i64 32) (.int .i64 32)).run Tryz.prog W = .ok (.slice (some ⟨W.heap.size, 0, none⟩) 32 32) (W.alloc (.cells (madeCells #[.int .u8 0] 32) 5)) := by
  obtain ⟨i0, hi, hz0, hz1, hz2⟩ := info_parts infoByte
  have h := run_makeSlice (P := Tryz.prog) W 142 5 i0 _ Tryz.underlying142 hi hz0 .i64 .i64 32 32 (by omega) (by omega) (by rw [hz1]; decide) (by rw [hz2]; decide) (by decide)
  rw [hz1] at h
  exact h
theorem Bt.made (W : World) (n x : Nat) : Bt W.heap.size n (rbP x 0) (W.alloc (.cells (madeCells #[.int .u8 0] n) 5)) := fun j hj => by
  refine ⟨?_, free_of (heap_alloc_new W _) j⟩
  rw [cell_of (heap_alloc_new W _) j, ← Array.getElem?_toList, toList_madeCells_one, List.getElem?_replicate, if_pos hj, rbP_zero]
  rfl
set_option maxRecDepth 100000 in
set_option maxHeartbeats 2000000 in
theorem rBytes_c {n : Nat} (hn : n < W256) (w : World) : Calls Tryz.prog 62 #[wordV n] w fun e w' => e = .returned (.string (str (wordL n))) ∧ Below w.heap.size w w' := by
  have HD := Lib.hid (fun V => Digits_b (dig_of hn) V)
  have K0 := Lib.hid ((Kb.start w).box #[.int .u64 (l3 n : Nat), .int .u64 (l2 n : Nat), .int .u64 (l1 n : Nat), .int .u64 (l0 n : Nat)] 51)
  have hmk := rmake32
  clear hn
  unfold wordV
  go_enter Tryz.func62, Tryz.ntmps62
  go_wp2_with fail
  refine (HD.out _).mono ?_
  rintro e w1 ⟨v, rfl, ⟨g, cap, rfl, hg, hc⟩, hb⟩
  have hB1 := Lib.hid (K0.out.call hb).below
  have hal : Below w1.heap.size w1 (w1.alloc (.cells (madeCells #[.int .u8 0] 32) 5)) := (Below.refl _ _).alloc (Nat.le_refl _) _
  have H0 := Lib.hid (show Below w.heap.size w (w1.alloc (.cells (madeCells #[.int .u8 0] 32) 5)) ∧ (∀ j, j < 32 → (w1.alloc (.cells (madeCells #[.int .u8 0] 32) 5)).cell? ⟨g, j, none⟩ = some (.int .i64 (byteOf n j : Nat))) ∧ Bt w1.heap.size 32 (rbP n 0) (w1.alloc (.cells (madeCells #[.int .u8 0] 32) 5)) from
    ⟨hB1.out.trans (hal.mono hB1.out.size), fun j hj => (hal.cell (p := ⟨g, j, none⟩) hg).trans (hc j hj), Bt.made w1 32 n⟩)
  have HG := Lib.hid (And.intro (Nat.ne_of_lt hg) hB1.out.size)
  clear hb hg hc hal HD K0 hB1
  go_wp2_with fail
  generalize w1.alloc (.cells (madeCells #[.int .u8 0] 32) 5) = W1 at *
  generalize hg1 : w1.heap.size = g1 at *
  go_loopw [5] (fun i wr => ∃ k : Nat, i = .int .i64 k ∧ k ≤ 32 ∧ Below w.heap.size w wr ∧ (∀ j, j < 32 → wr.cell? ⟨g, j, none⟩ = some (.int .i64 (byteOf n j : Nat))) ∧ Bt g1 32 (rbP n k) wr) (fun i _ => 32 - (intOf i).toNat)
  case atStart => exact ⟨0, rfl, by omega, H0.out⟩
  case round =>
    clear H0
    obtain ⟨k, rfl, hk, hB, hc, ht⟩ := hrel
    by_cases hk32 : k < 32
    · obtain ⟨q, hq⟩ : ∃ q, q = 31 - k := ⟨_, rfl⟩
      have hq31 : q ≤ 31 := by omega
      have hq' : 31 - (k : Int) = (q : Int) := by omega
      have hcq := hc q (by omega)
      have hz := byteOf_lt n q
      have hset := ht.set hk32 (byteOf n q)
      have hset' := hset.congr (Q := rbP n (k + 1)) (fun j _ => by rw [hq]; exact rbP_step n k j)
      have d0 := (ht k hk32).1
      have e0 := (ht k hk32).2
      have HN := Lib.hid (And.intro hB (And.intro hc hset'))
      clear hB hc ht hset hset' hq
      generalize byteOf n q = z at *
      have hw1 : IntKind.u8.wrap (z : Int) = (z : Int) := by rw [IntKind.wrap_u8]; omega
      have hw2 : (z : Int) % 256 = (z : Int) := by omega
      have hkl : (k : Int) < 32 := by omega
      clear hz hk32
      go_wp2_with fail
      go_roundw
      case rel => exact ⟨k + 1, by go_num, by omega, HN.out.1.setCell (p := ⟨g1, k, none⟩) HG.out.2 _, fun j hj => (World.cell?_setCell_other _ _ _ _ (by intro e; injection e with e1 e2; exact HG.out.1 e1.symm)).trans (HN.out.2.1 j hj), HN.out.2.2⟩
      case measure => simp [intOf]; omega
    · obtain rfl : k = 32 := by omega
      have hcv := ht.conv (rbP_lt n 32) 32
      rw [rbP_all] at hcv
      have HB := Lib.hid hB
      clear hB hc ht hk32
      go_wp2_with fail
      go_ret
      exact ⟨rfl, HB.out⟩

theorem lowB_last (s : ByteArray) (k : Nat) : lowB (fun j => byteAt s (s.size - 1 - j)) k = lastOf s k := by
  induction k with
  | zero => rfl
  | succ k ih => simp only [lowB, lastOf, ih]
def ofRow (s : ByteArray) (k : Nat) : List Value := (List.range k).map fun j => .int .i64 (byteAt s (s.size - 1 - j) : Nat)
theorem ofRow_succ (s : ByteArray) (k : Nat) : ofRow s (k + 1) = ofRow s k ++ [.int .i64 (byteAt s (s.size - 1 - k) : Nat)] := by
  unfold ofRow
  rw [List.range_succ, List.map_append]; rfl
set_option maxRecDepth 100000 in
set_option maxHeartbeats 2000000 in
theorem rOf_long (s : ByteArray) (hs : 32 < s.size) (w : World) :
    Calls Tryz.prog 58 #[.string s] w fun e w' =>
      e = .returned (.tuple #[.agg #[.int .u64 0, .int .u64 0, .int .u64 0, .int .u64 0], .bool false]) ∧ Below w.heap.size w w' := by
  have hs' : (32 : Int) < (s.size : Int) := by omega
  go_enter Tryz.func58, Tryz.ntmps58
  go_wp2
  exact bodyPost_ret (results_cell_slot Tryz.results58 _ _ _ _ _ _ _ _ rfl rfl (heap_alloc_new _ _) Tryz.underlying51 rfl (by kernel_rfl)) rfl ⟨rfl, (Below.refl _ _).alloc (Nat.le_refl _) _⟩
set_option maxRecDepth 100000 in
set_option maxHeartbeats 4000000 in
theorem rOf_short (s : ByteArray) (hs : s.size ≤ 32) (w : World) :
    Calls Tryz.prog 58 #[.string s] w (RetWB (fun v => v = lastOf s s.size) true w) := by
  have hs' : ¬ (32 : Int) < (s.size : Int) := by omega
  have hal : Below w.heap.size w (w.alloc (.cells #[.int .u64 0, .int .u64 0, .int .u64 0, .int .u64 0] 51)) := (Below.refl _ _).alloc (Nat.le_refl _) _
  have hbx : (w.alloc (.cells #[.int .u64 0, .int .u64 0, .int .u64 0, .int .u64 0] 51)).heap[w.heap.size]? = some (.cells #[.int .u64 0, .int .u64 0, .int .u64 0, .int .u64 0] 51 (0, 0)) := heap_alloc_new _ _
  have HA := Lib.hid (And.intro hal hbx)
  clear hal hbx
  obtain ⟨i0, hi, hz0, hz1, hz2⟩ := info_parts Tryz.infoInt
  go_enter Tryz.func58, Tryz.ntmps58
  go_wp2_with fail
  generalize w.alloc (.cells #[.int .u64 0, .int .u64 0, .int .u64 0, .int .u64 0] 51) = w0 at *
  have hw0 : wrap64 ((s.size : Int) - 1) = (s.size : Int) - 1 := by unfold wrap64; omega
  try rw [hw0]
  clear hw0
  go_loopw [4, 5] (fun v i wr => ∃ (k : Nat) (z : Int), i = .int .i64 z ∧ z = (s.size : Int) - 1 - (k : Int) ∧ k ≤ s.size ∧ Below w0.heap.size w0 wr ∧ wr.ownsRow w0.heap.size 3 1 v k (ofRow s k)) (fun _ i _ => (intOf i + 1).toNat)
  case atStart => exact ⟨0, _, rfl, by simp, by omega, Below.refl _ _, World.ownsRow_nil _ _ _ _⟩
  case round =>
    obtain ⟨k, z, rfl, hz, hk, hB, hown⟩ := hrel
    by_cases hkl : k < s.size
    · obtain ⟨q, hq⟩ : ∃ q, q = s.size - 1 - k := ⟨_, rfl⟩
      have hqs : q < s.size := by omega
      obtain rfl : z = (q : Int) := by omega
      have hix := index_i64 s (q : Int) q hqs rfl
      have HS := Lib.hid (ofRow_succ s k)
      rw [← hq] at HS
      have HB := Lib.hid hB; have HO := Lib.hid hown
      have HQ := Lib.hid (And.intro hz (And.intro hk (And.intro hkl hs)))
      clear hB hown hz hq hkl hk hs'
      have hby := byteAt_lt s q
      generalize byteAt s q = y at *
      have hwy : wrap64 (y : Int) = (y : Int) := by unfold wrap64; omega
      have hq0 : (0 : Int) ≤ (q : Int) := by omega
      clear hby hqs
      go_wp2_with (at_builtin; refine wpList_append_own _ rfl _ _ 172 rfl w0.heap.size 3 i0 (.int .i64 0) 1 8 Tryz.underlying172 hi hz0 hz1 hz2 rfl (by decide) _ _ _ rfl (HO.out.alloc _) ⟨wr.heap.size, 0, none⟩ 1 1 [.int .i64 (y : Nat)] rfl rfl ?c1 ?c2 ?c3 ?c4 ?c5 ?_)
      case c1 =>
        intro j u hj
        match j, hj with
        | 0, hj => simp at hj; subst hj; simp [Addr.add]
      case c2 => intro u hu; simp at hu; subst hu; rfl
      case c3 => have := HQ.out; unfold maxLen; omega
      case c4 => have := HQ.out; omega
      case c5 => have := HB.out.size; simp; omega
      intro v' w1 hown' hgrow _
      rw [← HS.out] at hown'
      have HE := Lib.hid (And.intro (below_grown HB.out HO.out hgrow) hown')
      clear hown' hgrow HB HO HS hix
      have hq1 : wrap64 ((q : Int) - 1) = (q : Int) - 1 := by have := HQ.out; unfold wrap64; omega
      go_wp2_with fail
      go_roundw
      case rel => exact ⟨k + 1, (q : Int) - 1, by first | rfl | rw [hq1], by have := HQ.out; omega, by have := HQ.out; omega, HE.out.1, HE.out.2⟩
      case measure => have := HQ.out; simp [intOf, hq1]; try omega
    · obtain rfl : k = s.size := by omega
      have hz0' : ¬ (0 : Int) ≤ z := by omega
      have hz1' : z < 0 := by omega
      have hbox := (hB.block _ (lt_of HA.out.2)).trans HA.out.2
      have HB := Lib.hid (And.intro hB hbox)
      rcases ownsRow_forms hown with ⟨rfl, h0⟩ | ⟨g, cap, rfl⟩
      · have HJ2 := Lib.hid (JoinS_c (b := fun j => byteAt s (s.size - 1 - j)) (a := none) (cap := 0) hs wr (fun j hj => absurd hj (by omega)) (fun j => byteAt_lt _ _))
        have h00 : s.size = 0 := h0
        rw [show (Value.slice none s.size 0) = Value.slice none 0 0 by rw [h00]] at HJ2
        clear hB hbox hown hz h0 hs' hkl hk h00
        go_wp2_with fail
        refine HJ2.out.mono ?_
        rintro e w2 ⟨s3, s2, s1, s0, rfl, hd, hb⟩
        have hbx := (hb.block _ (lt_of HB.out.2)).trans HB.out.2
        obtain ⟨_, z0, z1, z2, z3⟩ := cells4 hbx
        have HF := Lib.hid (And.intro hd (And.intro ((HA.out.1.trans (HB.out.1.mono HA.out.1.size)).trans (hb.mono (HA.out.1.trans (HB.out.1.mono HA.out.1.size)).size)) hbx))
        clear hd hb HJ2 hbx
        go_wp2_with fail
        exact bodyPost_ret (results_cell_slot Tryz.results58 _ _ _ _ _ _ _ _ rfl rfl (heap_set4 HF.out.2.2 _ _ _ _) Tryz.underlying51 rfl (by kernel_rfl)) rfl
          ⟨_, _, _, _, _, rfl, HF.out.1, lowB_last s _, below_set4 HF.out.2.1 (Nat.le_refl _) _ _ _ _⟩
      · have HJ2 := Lib.hid (JoinS_c (b := fun j => byteAt s (s.size - 1 - j)) (a := some ⟨g, 0, none⟩) (cap := cap) hs wr (fun j hj => ⟨g, rfl, (hown.lt g rfl).2, by rw [hown.cellAt j (by omega)]; unfold ofRow; simp [hj]⟩) (fun j => byteAt_lt _ _))
        clear hB hbox hown hz hs' hkl hk
        go_wp2_with fail
        refine HJ2.out.mono ?_
        rintro e w2 ⟨s3, s2, s1, s0, rfl, hd, hb⟩
        have hbx := (hb.block _ (lt_of HB.out.2)).trans HB.out.2
        obtain ⟨_, z0, z1, z2, z3⟩ := cells4 hbx
        have HF := Lib.hid (And.intro hd (And.intro ((HA.out.1.trans (HB.out.1.mono HA.out.1.size)).trans (hb.mono (HA.out.1.trans (HB.out.1.mono HA.out.1.size)).size)) hbx))
        clear hd hb HJ2 hbx
        go_wp2_with fail
        exact bodyPost_ret (results_cell_slot Tryz.results58 _ _ _ _ _ _ _ _ rfl rfl (heap_set4 HF.out.2.2 _ _ _ _) Tryz.underlying51 rfl (by kernel_rfl)) rfl
          ⟨_, _, _, _, _, rfl, HF.out.1, lowB_last s _, below_set4 HF.out.2.1 (Nat.le_refl _) _ _ _ _⟩
/-- stithyref01.Of by the number. -/
theorem rOf_c (s : List UInt8) (w : World) : Calls Tryz.prog 58 #[.string (str s)] w fun e w' => e = .returned (.tuple #[wordV (if s.length ≤ 32 then ofL s else 0), .bool (decide (s.length ≤ 32))]) ∧ Below w.heap.size w w' := by
  by_cases h : s.length ≤ 32
  · rw [if_pos h]
    refine (rOf_short (str s) (by rw [str_size]; exact h) w).mono ?_
    rintro e w' ⟨n, s3, s2, s1, s0, rfl, hd, rfl, hb⟩
    obtain ⟨rfl, rfl, rfl, rfl⟩ := dig_eq hd
    exact ⟨by simp [h, wordV, ofL], hb⟩
  · rw [if_neg h]
    refine (rOf_long (str s) (by rw [str_size]; omega) w).mono ?_
    rintro e w' ⟨rfl, hb⟩
    exact ⟨by simp [h, wordV, lim_zero], hb⟩
end Go.Proofs.YtceagpnonkmfdaaGreat
end
