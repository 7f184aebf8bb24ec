/- RecordBack. -/
import Derived.Test.YtoiooohdenfpmaaQx
import Derived.Test.YtoiooohdenfpmaaQd
import Derived.Test.YtoiooohdenfpmaaQo
import Derived.Lib.ConvBytes
namespace Go.Proofs.Ytoiooohdenfpmaa
open Go.RowKit

/-- Bytes in a block, that may be written. -/
def Bt (g n : Nat) (P : Nat → Nat) (W : World) : Prop := ∀ j, j < n → W.cell? ⟨g, j, none⟩ = some (.int .u8 (P j : Nat)) ∧ W.frozen? ⟨g, j, none⟩ = false
theorem Bt.later {g n : Nat} {P : Nat → Nat} {W W' : World} (h : Bt g n P W) (hg : g < W.heap.size) (hb : Below W.heap.size W W') : Bt g n P W' := fun j hj =>
  ⟨(World.cell?_of_block (hb.block g hg)).trans (h j hj).1, (World.frozen?_of_block (hb.block g hg)).trans (h j hj).2⟩
theorem Bt.set {g n : Nat} {P : Nat → Nat} {W : World} (h : Bt g n P W) {k : Nat} (hk : k < n) (v : Nat) : Bt g n (upd P k v) (W.setCell ⟨g, k, none⟩ (.int .u8 (v : Nat))) := fun j hj => by
  refine ⟨?_, by rw [World.frozen?_setCell]; exact (h j hj).2⟩
  by_cases e : j = k
  · subst e
    rw [World.cell?_setCell_same _ _ _ (h j hj).1, upd_same]
  · rw [World.cell?_setCell_other _ _ _ _ (by intro e'; injection e' with e1 e2; omega), upd_other _ _ e]
    exact (h j hj).1
theorem Bt.congr {g n : Nat} {P Q : Nat → Nat} {W : World} (h : Bt g n P W) (e : ∀ j, j < n → P j = Q j) : Bt g n Q W := fun j hj => by rw [← e j hj]; exact h j hj
theorem Bt.conv {g n : Nat} {P : Nat → Nat} {W : World} (h : Bt g n P W) (hP : ∀ j, P j < 256) (cap : Nat) :
    (convert 26 9 (.slice (some ⟨g, 0, none⟩) n cap)).run Try.prog W = .ok (.string (txt n P)) W := by
  have := Lib.run_convert_whole (P := Try.prog) W 26 5 9 Try.underlying26 Try.underlying5 Try.underlying9 g 0 (txt n P) (by
    intro i hi
    rw [txt_size] at hi
    have e : (txt n P)[i]'(by rw [txt_size]; exact hi) = UInt8.ofNat (P i) := by simp [txt, ByteArray.getElem_eq_getElem_data]
    rw [Nat.zero_add, (h i hi).1, e, UInt8.toNat_ofNat_of_lt' (hP i)]) cap
  rwa [txt_size] at this
theorem bytes_of (s : ByteArray) (w : World) :
    ∃ cap W, (convert 9 26 (.string s)).run Try.prog w = .ok (.slice (some ⟨w.heap.size, 0, none⟩) s.size cap) W ∧ Bt w.heap.size s.size (byteAt s) W ∧ Below w.heap.size w W ∧ w.heap.size < W.heap.size := by
  refine ⟨_, _, Lib.run_convert_string_bytes (P := Try.prog) w 9 26 5 s Try.underlying9 Try.underlying26 Try.underlying5, ?_, ?_, ?_⟩
  · intro j hj
    refine ⟨?_, ?_⟩
    · rw [Lib.bytesWorld_cell w _ s j hj]
      unfold byteAt
      rw [dif_pos hj]
      simp [List.getD, hj, ByteArray.getElem_eq_getElem_data]
    · have h := Lib.bytesWorld_at_new w 5 s
      have hsz : (Lib.bytesCells w 5 s).size ≥ s.size := by simp [Lib.bytesCells]
      simp [World.frozen?, h]
      try omega
  · exact ⟨rfl, rfl, rfl, Nat.le_of_lt (by rw [Lib.bytesWorld_size]; omega), fun k hk => Lib.bytesWorld_at_old w _ s k hk⟩
  · rw [Lib.bytesWorld_size]; omega

theorem infoI : (Try.prog.info? 3).map (fun i => (i.zero, i.size, i.bytes)) = some (some (.int .i64 0), 1, 8) := by kernel_rfl
def endsL (ts : List Nm) (k : Nat) : List Value := (List.range k).map fun i => .int .i64 ((frs (ts.take (i + 1))).length : Nat)
theorem endsL_step (ts : List Nm) (k : Nat) : endsL ts (k + 1) = endsL ts k ++ [.int .i64 ((frs (ts.take (k + 1))).length : Nat)] := by
  unfold endsL
  rw [List.range_succ, List.map_append]; rfl
theorem endsL_len (ts : List Nm) (k : Nat) : (endsL ts k).length = k := by simp [endsL]
/-- The texts that the law frames. -/
def cutT (l : List Nm) : List Nm := (l.take 10).map (·.take 100)
theorem cutT_get {l : List Nm} {k : Nat} {t : Nm} (hk : k < 10) (h : l[k]? = some t) : (cutT l)[k]? = some (t.take 100) := by
  unfold cutT
  rw [List.getElem?_map, List.getElem?_take_of_lt hk, h]; rfl
theorem cutT_len (l : List Nm) : (cutT l).length = min 10 l.length := by simp [cutT]
theorem cutT_all (l : List Nm) : ∀ t ∈ cutT l, t.length ≤ 100 := by
  intro t ht
  obtain ⟨u, _, rfl⟩ := List.mem_map.1 ht
  rw [List.length_take]; omega
theorem frs_take_step {ts : List Nm} {k : Nat} {t : Nm} (h : ts[k]? = some t) : frs (ts.take (k + 1)) = frs (ts.take k) ++ fr t := by
  rw [List.take_add_one, h, Option.toList, frs_append, frs_one]
theorem frs_bound {ts : List Nm} (h : ∀ t ∈ ts, t.length ≤ 100) : (frs ts).length ≤ 108 * ts.length := by
  induction ts with
  | nil => simp [frs]
  | cons t l ih =>
    have h1 := h t (by simp)
    have h2 := ih (fun u hu => h u (by simp [hu]))
    simp only [frs, List.length_append, fr_len, List.length_cons]; omega
theorem cut_texts {W : World} {a : Option Addr} {c : Nat} {l : List Nm} (h : Txts W a c l) {m : Nat} (hm : m ≤ l.length) (V : World) :
    (Instr.slice 22 (.slice a l.length c) none (some (.int .i64 (m : Nat))) none).run Try.prog V = .ok (.slice a m c) V := by
  have he : (sizeOf (Try.prog.elem 22)).run Try.prog V = .ok 1 V := by kernel_rfl
  rw [run_slice_h V 22 a l.length c (by rw [Try.underlying22]; kernel_rfl) .i64 (m : Int) (by omega) (by have := h.1; omega), he]
  simp only [Result.andThen_ok]
  unfold sliced
  rcases h.2 with rfl | ⟨g, o, rfl, _⟩
  · have : m = 0 := by simpa using hm
    subst this
    cases a with
    | none => simp
    | some ad => cases ad; simp [Addr.add]
  · simp [Addr.add]
theorem txt_turn {s : List UInt8} {m X : Nat} (hX : X < 256) (hm : m < s.length) : txt s.length (upd (byteAt (str s)) m (byteAt (str s) m ^^^ X)) = str (turnB s m (UInt8.ofNat X)) := by
  rw [← txt_byteAt (str (turnB s m (UInt8.ofNat X))), str_size, turnB_len]
  refine txt_congr fun j hj => ?_
  rw [byteAt_str, byteAt_str]
  unfold upd turnB
  by_cases e : j = m
  · subst e
    rw [if_pos rfl]
    simp only [List.getD_eq_getElem?_getD, List.getElem?_set_self hj, Option.getD_some]
    rw [UInt8.toNat_xor, UInt8.toNat_ofNat_of_lt' hX]
  · rw [if_neg e, byteAt_str]
    simp only [List.getD_eq_getElem?_getD]
    rw [List.getElem?_set_ne (by omega)]
theorem frs_take_le (ts : List Nm) {i j : Nat} (h : i ≤ j) : (frs (ts.take i)).length ≤ (frs (ts.take j)).length := by
  have : ts.take j = ts.take i ++ (ts.take j).drop i := by
    conv => lhs; rw [← List.take_append_drop i (ts.take j)]
    rw [List.take_take, Nat.min_eq_left h]
  rw [this, frs_append, List.length_append]; omega
/-- Where the frames end, and which of them the byte is in. -/
theorem ends_at {ts pre post : List Nm} {t : Nm} (h : ts = pre ++ t :: post) : ts.take pre.length = pre ∧ (frs (ts.take (pre.length + 1))).length = (frs pre).length + (fr t).length := by
  have h1 : ts.take pre.length = pre := by rw [h, List.take_left]
  refine ⟨h1, ?_⟩
  have h2 : ts[pre.length]? = some t := by rw [h, List.getElem?_append_right (Nat.le_refl _), Nat.sub_self]; rfl
  rw [frs_take_step h2, h1, List.length_append]
theorem endsL_get (ts : List Nm) {k j : Nat} (h : j < k) : (endsL ts k)[j]? = some (.int .i64 ((frs (ts.take (j + 1))).length : Nat)) := by
  unfold endsL
  rw [List.getElem?_map, List.getElem?_range h]; rfl
def BackI (ts : List Nm) (k : Nat) (ve : Value) (W wr : World) : Prop := wr.ownsRow W.heap.size 3 1 ve k (endsL ts k) ∧ Below W.heap.size W wr
set_option maxRecDepth 100000 in
set_option maxHeartbeats 4000000 in
theorem back_c {a : Option Addr} {c : Nat} {l : List Nm} {W : World} (hT : Txts W a c l) (hlen : l.length ≤ maxLen) (bit : Nat) (hbit : bit < 2 ^ 32) : Calls Try.prog 4 #[.slice a l.length c, .int .u32 (bit : Nat)] W fun e W' => e = .returned (.bool true) ∧ Below W.heap.size W W' := by
  have HX := Lib.hid (And.intro hT hlen)
  obtain ⟨ts, hts⟩ : ∃ ts, ts = cutT l := ⟨_, rfl⟩
  obtain ⟨n, hn⟩ : ∃ n, n = l.length := ⟨_, rfl⟩
  have HN := Lib.hid (And.intro hn (And.intro hts (show ts.length = min 10 l.length ∧ ∀ t ∈ ts, t.length ≤ 100 by rw [hts]; exact ⟨cutT_len l, cutT_all l⟩)))
  have HCT := Lib.hid (fun (m : Nat) (hm : m ≤ n) (V : World) => hn ▸ cut_texts hT (hn ▸ hm) V)
  rw [← hn]
  have hnm : (n : Int) ≤ 9223372036854775807 := by rw [hn]; unfold maxLen at hlen; omega
  clear hT hlen hn hts
  go_enter Try.func4, Try.ntmps4
  go_wp2_with fail
  refine (exam_c W).mono ?_
  rintro e W1 ⟨rfl, hb⟩
  have B1 := Lib.hid (show BackI ts 0 (.slice none 0 0) W W1 from ⟨World.ownsRow_nil _ _ _ _, hb⟩)
  clear hb
  have hnc : n ≤ c := by rw [HN.out.1]; exact HX.out.1.1
  have HNC := Lib.hid hnc
  clear hnc
  go_wp2_with (refine wpList_min2 (by rfl) _ _ _ (by rfl) (n : Int) 10 (by rfl) (by rfl) ?_; intro q0 hq0; obtain ⟨m, rfl, hmm⟩ : ∃ m : Nat, q0 = (m : Int) ∧ m ≤ n ∧ m ≤ 10 ∧ m = min 10 n := (by rcases Nat.lt_or_ge 10 n with h | h; (· exact ⟨10, by rw [hq0, if_pos (by omega)]; rfl, by omega, by omega, by omega⟩); (· exact ⟨n, by rw [hq0, if_neg (by omega)], by omega, by omega, by omega⟩)); have hcm := HCT.out m hmm.1; have hmc : (m : Int) ≤ (c : Int) := (by have := HNC.out; omega); have HM0 := Lib.hid hmm; clear hmm hq0)
  obtain ⟨hmn, hm10, hmm⟩ := HM0.out
  have hce : m = ts.length := by rw [HN.out.2.2.1, ← HN.out.1]; exact hmm
  have HM := Lib.hid (And.intro hce (And.intro hmn hmm))
  clear hcm hmm hmn hce HCT HM0
  go_loopw [6, 7, 8] (fun va ve vi wr => ∃ k : Nat, vi = .int .i64 k ∧ k ≤ m ∧ va = .string (str (frs (ts.take k))) ∧ BackI ts k ve W wr) (fun _ _ i _ => 10 - (intOf i).toNat)
  case atStart => exact ⟨0, rfl, by omega, rfl, B1.out⟩
  case round =>
    obtain ⟨k, rfl, hkm, rfl, hi⟩ := hrel
    obtain ⟨a1, c1, rfl⟩ := own_any hi.1
    by_cases hlt : k < m
    · obtain ⟨t, ht⟩ : ∃ t, l[k]? = some t := ⟨_, List.getElem?_eq_getElem (by have := HN.out.1; have := HM.out.2.1; omega)⟩
      obtain ⟨hlc, hgo⟩ := HX.out.1
      rcases hgo with hnil | ⟨g, o, rfl, hg, hcell⟩
      · rw [hnil] at ht; cases ht
      have htk : ts[k]? = some (t.take 100) := by rw [HN.out.2.1]; exact cutT_get (by omega) ht
      have HS := Lib.hid (fun (V : World) (hV : V.cell? ⟨g, o + k, none⟩ = some (.string (str t))) => hV)
      have H0 : wr.drew.cell? ⟨g, o + k, none⟩ = some (.string (str t)) := (World.cell?_of_block (hi.2.block g hg)).trans (hcell k t ht)
      have HQ := Lib.hid (fun (V : World) (hV : Below W.heap.size W V) => (World.cell?_of_block (hV.block g hg)).trans (hcell k t ht))
      have hlen := str_size t
      obtain ⟨mm, hmm⟩ : ∃ mm, mm = min t.length 100 := ⟨_, rfl⟩
      have hle : mm ≤ t.length := by omega
      have hst := str_take t mm
      have HMM := Lib.hid hmm
      have htm : t.take mm = t.take 100 := by
        rcases Nat.lt_or_ge 100 t.length with h | h
        · rw [show mm = 100 by omega]
        · rw [List.take_of_length_le (by omega), List.take_of_length_le h]
      have hzl : (t.take mm).length ≤ 100 := by rw [List.length_take]; omega
      have hstep := frs_take_step htk
      rw [← htm] at hstep htk
      have hfb := frs_bound (ts := ts.take k) (fun u hu => HN.out.2.2.2 u (List.mem_of_mem_take hu))
      rw [List.length_take] at hfb
      have hfz := str_size (frs (ts.take k))
      have hfrz := str_size (fr (t.take mm))
      rw [fr_len] at hfrz
      have HE := Lib.hid (show str (frs (ts.take k)) ++ str (fr (t.take mm)) = str (frs (ts.take (k + 1))) ∧ (frs (ts.take (k + 1))).length = (frs (ts.take k)).length + ((t.take mm).length + 8) from ⟨by rw [hstep, str_app], by rw [hstep, List.length_append, fr_len]⟩)
      have hki : (k : Int) < (m : Int) := by omega
      have hci : (n : Int) ≤ (c : Int) := by have := HN.out.1; omega
      have hmn : (m : Int) ≤ (n : Int) := by have := HM.out.2.1; omega
      have hw : IntKind.i64.wrap ((k : Int) + 1) = (k : Int) + 1 := IntWalk.i64_in _ (by omega)
      have HFR := Lib.hid (fun W => frame_c (t.take mm) (by omega) W)
      have HI := Lib.hid hi
      clear hmm hi hcell ht hlc hg hstep htk htm B1
      generalize t.take mm = z at *
      go_wp2_with fail
      refine Drawn.start (fun V => V.cell? ⟨g, o + k, none⟩ = some (.string (str t))) (fun _ => false) (by kernel_rfl) ?_
      refine Drawn.take 0 (some 36) (v := ?_) rfl rfl (by kernel_rfl) (by kernel_rfl) (by kernel_rfl) (by kernel_rfl) (by kernel_rfl) rfl (fun _ _ _ h => h) (Or.inl ⟨rfl, ?_⟩) H0 ?_
      rotate_left
      · intro W hW; have hW := HS.out W hW; go_simp; try with_reducible rfl
      simp only [put_list, List.set]
      refine Drawn.take 1 (some 37) (v := ?_) rfl rfl (by kernel_rfl) (by kernel_rfl) (by kernel_rfl) (by kernel_rfl) (by kernel_rfl) rfl (fun _ _ _ h => h) (Or.inl ⟨rfl, ?_⟩) H0 ?_
      rotate_left
      · intro W hW; have hW := HS.out W hW; go_simp; try with_reducible rfl
      simp only [put_list, List.set]
      refine Drawn.take 2 (some 38) (v := ?_) rfl rfl (by kernel_rfl) (by kernel_rfl) (by kernel_rfl) (by kernel_rfl) (by kernel_rfl) rfl (fun _ _ _ h => h) (Or.inl ⟨rfl, ?_⟩) H0 ?_
      rotate_left
      · intro W hW; have hW := HS.out W hW; go_simp; try with_reducible rfl
      simp only [put_list, List.set]
      refine Drawn.take 3 (some 39) (v := ?_) rfl rfl (by kernel_rfl) (by kernel_rfl) (by kernel_rfl) (by kernel_rfl) (by kernel_rfl) rfl (fun _ _ _ h => h) (Or.inl ⟨rfl, ?_⟩) H0 ?_
      rotate_left
      · intro W hW; have hW := HS.out W hW; go_simp; try with_reducible rfl
      simp only [put_list, List.set]
      refine Drawn.take 4 (some 40) (v := ?_) rfl rfl (by kernel_rfl) (by kernel_rfl) (by kernel_rfl) (by kernel_rfl) (by kernel_rfl) rfl (fun _ _ _ h => h) (Or.inl ⟨rfl, ?_⟩) H0 ?_
      rotate_left
      · intro W hW; have hW := HS.out W hW; go_simp; try with_reducible rfl
      simp only [put_list, List.set]
      refine Drawn.take 5 (some 41) (v := ?_) rfl rfl (by kernel_rfl) (by kernel_rfl) (by kernel_rfl) (by kernel_rfl) (by kernel_rfl) rfl (fun _ _ _ h => h) (Or.inl ⟨rfl, ?_⟩) H0 ?_
      rotate_left
      · intro W hW; have hW := HS.out W hW; go_simp; try with_reducible rfl
      simp only [put_list, List.set]
      refine Drawn.take 6 (some 42) (v := ?_) rfl rfl (by kernel_rfl) (by kernel_rfl) (by kernel_rfl) (by kernel_rfl) (by kernel_rfl) rfl (fun _ _ _ h => h) (Or.inl ⟨rfl, ?_⟩) H0 ?_
      rotate_left
      · intro W hW; have hW := HS.out W hW; go_simp; try with_reducible rfl
      simp only [put_list, List.set]
      refine Drawn.take 7 (some 43) (v := ?_) rfl rfl (by kernel_rfl) (by kernel_rfl) (by kernel_rfl) (by kernel_rfl) (by kernel_rfl) rfl (fun _ _ _ h => h) (Or.inl ⟨rfl, ?_⟩) H0 ?_
      rotate_left
      · intro W hW; have hW := HS.out W hW; go_simp; try with_reducible rfl
      simp only [put_list, List.set]
      refine Drawn.take 8 (some 44) (v := ?_) rfl rfl (by kernel_rfl) (by kernel_rfl) (by kernel_rfl) (by kernel_rfl) (by kernel_rfl) rfl (fun _ _ _ h => h) (Or.inl ⟨rfl, ?_⟩) H0 ?_
      rotate_left
      · intro W hW; have hW := HS.out W hW; go_simp; try with_reducible rfl
      simp only [put_list, List.set]
      refine Drawn.take 9 (some 45) (v := .int .i64 (mm : Nat)) rfl rfl (by kernel_rfl) (by kernel_rfl) (by kernel_rfl) (by kernel_rfl) (by kernel_rfl) rfl (fun _ _ _ h => h) (Or.inl ⟨rfl, ?_⟩) H0 ?_
      · intro V hV; have hV := HS.out V hV; go_simp; have := HMM.out; omega
      simp only [put_list, List.set]
      refine Drawn.take 10 (some 46) (v := ?_) rfl rfl (by kernel_rfl) (by kernel_rfl) (by kernel_rfl) (by kernel_rfl) (by kernel_rfl) rfl (fun _ _ _ h => h) (Or.inl ⟨rfl, ?_⟩) H0 ?_
      rotate_left
      · intro W hW; have hW := HS.out W hW; go_simp; try with_reducible rfl
      simp only [put_list, List.set]
      refine Drawn.only 11 (by kernel_rfl) rfl rfl (fun K hK => ?_)
      go_simp
      refine (HFR.out _).mono ?_
      rintro e w7 ⟨rfl, hq⟩
      have hq : Below wr.heap.size wr w7 := ((Below.refl _ _).drew).trans hq
      have hq2 : Below W.heap.size W w7 := HI.out.2.trans (hq.mono HI.out.2.size)
      have H1 := HQ.out w7 hq2
      refine hK _ _ (fun _ _ => H1) ?_
      clear hK K
      have H3 := Lib.hid (show BackI ts k (.slice a1 k c1) W w7 from ⟨own_keep HI.out.1 (fun b hb => hq.block b (HI.out.1.lt b hb).2), hq2⟩)
      clear hq hq2
      refine Drawn.take 12 (some 35) (v := ?_) rfl rfl (by kernel_rfl) (by kernel_rfl) (by kernel_rfl) (by kernel_rfl) (by kernel_rfl) rfl (fun _ _ _ h => h) (Or.inl ⟨rfl, ?_⟩) H1 ?_
      rotate_left
      · intro W hW; have hW := HS.out W hW; go_simp; try with_reducible rfl
      simp only [put_list, List.set]
      refine Drawn.take 13 (some 48) (v := ?_) rfl rfl (by kernel_rfl) (by kernel_rfl) (by kernel_rfl) (by kernel_rfl) (by kernel_rfl) rfl (fun _ _ _ h => h) (Or.inl ⟨rfl, ?_⟩) H1 ?_
      rotate_left
      · intro W hW; have hW := HS.out W hW; go_simp; try with_reducible rfl
      simp only [put_list, List.set]
      refine Drawn.take 14 (some 49) (v := ?_) rfl rfl (by kernel_rfl) (by kernel_rfl) (by kernel_rfl) (by kernel_rfl) (by kernel_rfl) rfl (fun _ _ _ h => h) (Or.inl ⟨rfl, ?_⟩) H1 ?_
      rotate_left
      · intro W hW; have hW := HS.out W hW; go_simp; try with_reducible rfl
      simp only [put_list, List.set]
      refine Drawn.take 15 (some 9) (v := ?_) rfl rfl (by kernel_rfl) (by kernel_rfl) (by kernel_rfl) (by kernel_rfl) (by kernel_rfl) rfl (fun _ _ _ h => h) (Or.inl ⟨rfl, ?_⟩) H1 ?_
      rotate_left
      · intro W hW; have hW := HS.out W hW; go_simp; try with_reducible rfl
      simp only [put_list, List.set]
      refine Drawn.take 16 (some 10) (v := ?_) rfl rfl (by kernel_rfl) (by kernel_rfl) (by kernel_rfl) (by kernel_rfl) (by kernel_rfl) rfl (fun _ _ _ h => h) (Or.inl ⟨rfl, ?_⟩) H1 ?_
      rotate_left
      · intro W hW; have hW := HS.out W hW; go_simp; try with_reducible rfl
      simp only [put_list, List.set]
      refine Drawn.done (by kernel_rfl) ?_ _
      clear HS H0 H1 HFR HI hlen hst hle
      have hcat := HE.out.1
      have hnz := str_size (frs (ts.take (k + 1)))
      have hzl2 : z.length ≤ 100 := hzl
      generalize hL : frs (ts.take (k + 1)) = nx at *
      have HL := Lib.hid hL
      clear hL
      generalize str (frs (ts.take k)) = al at *
      generalize str (fr z) = f at *
      generalize hns : str nx = ns at *
      have HNS := Lib.hid hns
      clear hns
      go_wp2_with (at_builtin; have HO := Lib.hid (own_keep H3.out.1 (w' := w7.alloc (.cells #[.int .i64 (nx.length : Nat)] 3)) fun b hb => Below.heap_alloc _ _ _ (H3.out.1.lt b hb).2); have HZ := Lib.hid (heap_alloc_new w7 (.cells #[.int .i64 (nx.length : Nat)] 3)); have HB := Lib.hid (H3.out.2.alloc H3.out.2.size (.cells #[.int .i64 (nx.length : Nat)] 3)); refine wpList_append_one rfl _ _ 32 3 rfl Try.underlying32 _ 8 infoI rfl (by omega) W.heap.size (.slice a1 k c1) k (endsL ts k) (by rfl) HO.out w7.heap.size (.int .i64 (nx.length : Nat)) rfl (by rfl) HZ.out HB.out.size (by omega) ?_; intro v2 W4 hown2 hgr hbl; have HV := Lib.hid (And.intro hown2 hgr); clear hown2 hgr hbl)
      have hown : W4.ownsRow W.heap.size 3 1 v2 (k + 1) (endsL ts (k + 1)) := by
        rw [endsL_step, HL.out]; exact HV.out.1
      have HI4 := Lib.hid (show BackI ts (k + 1) v2 W W4 from ⟨hown, HB.out.trans (below_grown HV.out.2 (fun b hb => (HO.out.lt b hb).1) HB.out.size)⟩)
      obtain ⟨a2, c2, rfl⟩ := own_any hown
      clear hown HV HO HZ HB H3
      go_wp2_with fail
      go_roundw
      case rel => exact ⟨k + 1, by go_num, by omega, by rw [HL.out, HNS.out], HI4.out⟩
      case measure => simp [intOf]; omega
    · obtain rfl : k = m := by omega
      have htk : ts.take k = ts := List.take_of_length_le (by have := HM.out.1; omega)
      have hfb := frs_bound HN.out.2.2.2
      rw [htk]
      have HI := Lib.hid hi
      clear hi htk B1 hlt
      have hll : (frs ts).length ≤ 1080 := by have := HM.out.1; omega
      go_wp2_with fail
      refine (frames_c (frs ts) (by omega) _).mono ?_
      rintro e w2 ⟨us, r2, v2, rfl, h1, h2, h3⟩
      obtain ⟨rfl, rfl⟩ := h1.inj (Fs.own (fun t ht => Nat.le_trans (HN.out.2.2.2 t ht) (by omega)))
      obtain ⟨va, vc, rfl⟩ := h2.form
      have HI2 := Lib.hid (show BackI us k (.slice a1 k c1) W w2 from ⟨own_keep HI.out.1 (fun b hb => h3.block b (HI.out.1.lt b hb).2), HI.out.2.trans (h3.mono HI.out.2.size)⟩)
      have hfr8 := frs_len us
      clear h1 h2 h3 HI hfb
      have hul : us.length = k := HM.out.1.symm
      rw [hul]
      clear hul
      have hsz := str_size (frs us)
      by_cases hk0 : k = 0
      · have hus : us = [] := List.eq_nil_of_length_eq_zero (by have := HM.out.1; omega)
        subst hus
        subst hk0
        have hemp : (str ([] : Nm)).toList.isEmpty = true := by rw [str_toList]; rfl
        have hse : (str ([] : Nm)).size = 0 := rfl
        rw [show frs [] = [] from rfl] at hsz ⊢
        simp only [List.length_nil] at *
        generalize str ([] : Nm) = al at *
        go_wp2_with fail
        go_ret
        exact ⟨rfl, HI2.out.2⟩
      · have hL8 : 8 ≤ (frs us).length := by have := HM.out.1; omega
        have hemp : (str (frs us)).toList.isEmpty = false := by
          rw [str_toList]
          cases hu : frs us with
          | nil => rw [hu] at hL8; simp at hL8
          | cons x y => rfl
        obtain ⟨cap, W5, hcv, hb1, hb2, hb3⟩ := bytes_of (str (frs us)) w2
        obtain ⟨K, hK⟩ : ∃ K, K = bit % (8 * (frs us).length) := ⟨_, rfl⟩
        have hKlt : K < 8 * (frs us).length := by rw [hK]; exact Nat.mod_lt _ (by omega)
        have hw8 : IntKind.i64.wrap (8 * ((frs us).length : Int)) = 8 * ((frs us).length : Int) := IntWalk.i64_in _ (by omega)
        have hw9 : IntKind.u32.wrap (8 * ((frs us).length : Int)) = 8 * ((frs us).length : Int) := by rw [IntKind.wrap_u32]; omega
        have hmod : (bit : Int) % (8 * ((frs us).length : Int)) = (K : Int) := by rw [hK]; simp
        have hnz : ¬ (8 * ((frs us).length : Int)) = 0 := by omega
        rw [hsz] at hb1 hcv
        have HY := Lib.hid (And.intro hb1 (And.intro hb2 (And.intro hb3 (And.intro hKlt (And.intro hL8 hll)))))
        clear hb1 hb2 hb3 hKlt hK hk0
        generalize hal : str (frs us) = al at *
        have HAL := Lib.hid hal
        clear hal
        obtain ⟨L, hL⟩ : ∃ L, L = (frs us).length := ⟨_, rfl⟩
        rw [← hL] at HY hcv hsz hw8 hw9 hmod hnz hL8 hll ⊢
        have HL := Lib.hid hL
        clear hL hfr8
        go_wp2_with fail
        obtain ⟨M, hM⟩ : ∃ M, M = K / 8 := ⟨_, rfl⟩
        obtain ⟨s, hs⟩ : ∃ s, s = K % 8 := ⟨_, rfl⟩
        have hKL := HY.out.2.2.2.1
        have hML : M < L := by omega
        have hs8 : s < 8 := by omega
        rw [show wrap64 (K : Int) = (K : Int) from IntWalk.wrap64_in _ ⟨by omega, by omega⟩]
        have d0 := (HY.out.1 M hML).1
        have e0 := (HY.out.1 M hML).2
        have hq1 : (K : Int).tdiv 8 = (M : Int) := by rw [Int.tdiv_eq_ediv_of_nonneg (by omega)]; omega
        have hq2 : (K : Int) / 8 = (M : Int) := by omega
        have hr1 : (K : Int).tmod 8 = (s : Int) := by rw [Int.tmod_eq_emod_of_nonneg (by omega)]; omega
        have hr2 : (K : Int) % 8 = (s : Int) := by omega
        have hMi : (M : Int) < (L : Int) := by omega
        have hM0 : (0 : Int) ≤ (M : Int) := by omega
        have hMw : IntKind.i64.wrap (M : Int) = (M : Int) := IntWalk.i64_in _ (by omega)
        have hsw : IntKind.i64.wrap (s : Int) = (s : Int) := IntWalk.i64_in _ (by omega)
        have d0 : W5.drew.cell? ⟨w2.heap.size, M, none⟩ = some (.int .u8 (byteAt al M : Nat)) := d0
        have e0 : W5.drew.frozen? ⟨w2.heap.size, M, none⟩ = false := e0
        have HK2 := Lib.hid (And.intro hM hs)
        clear hM hs hKL hcv hmod hnz hw8 hw9
        go_still_tail 13, (by kernel_rfl)
        change wpList _ _ _ _ _ W5.drew
        obtain ⟨X, hX⟩ : ∃ X, X = 2 ^ s := ⟨_, rfl⟩
        have hX2 : IntKind.u8.wrap ((2 : Int) ^ s) = (X : Int) ∧ X < 256 ∧ X ≠ 0 := by
          have : s = 0 ∨ s = 1 ∨ s = 2 ∨ s = 3 ∨ s = 4 ∨ s = 5 ∨ s = 6 ∨ s = 7 := by omega
          rcases this with rfl | rfl | rfl | rfl | rfl | rfl | rfl | rfl <;> subst hX <;> decide
        have hxor := u8_xor_nat (byteAt al M) X (byteAt_lt _ _) hX2.2.1
        rw [hX2.1, hxor]
        have hset : Bt w2.heap.size L (upd (byteAt al) M (byteAt al M ^^^ X)) ((W5.setCell ⟨w2.heap.size, M, none⟩ (.int .u8 (byteAt al M ^^^ X : Nat))).drew) := HY.out.1.set hML (byteAt al M ^^^ X)
        have hcv2 := hset.conv (fun j => by unfold upd; split; (· exact Nat.xor_lt_two_pow (n := 8) (byteAt_lt _ _) hX2.2.1); (· exact byteAt_lt _ _)) cap
        rw [← HAL.out, HL.out, txt_turn hX2.2.1 (by rw [← HL.out]; exact hML), ← HL.out, HAL.out] at hcv2
        have hx0 : UInt8.ofNat X ≠ 0 := fun h => hX2.2.2 (by have := congrArg UInt8.toNat h; rw [UInt8.toNat_ofNat_of_lt' hX2.2.1] at this; exact this)
        have HW6 := Lib.hid (show Below W.heap.size W (W5.setCell ⟨w2.heap.size, M, none⟩ (.int .u8 (byteAt al M ^^^ X : Nat))).drew ∧ World.ownsRow (W5.setCell ⟨w2.heap.size, M, none⟩ (.int .u8 (byteAt al M ^^^ X : Nat))).drew W.heap.size 3 1 (.slice a1 k c1) k (endsL us k) from
          ⟨((HI2.out.2.trans (HY.out.2.1.mono HI2.out.2.size)).setCell (show W.heap.size ≤ (⟨w2.heap.size, M, none⟩ : Addr).block from HI2.out.2.size) _).drew, own_keep HI2.out.1 fun b hb => by
            have hbl := (HI2.out.1.lt b hb).2
            exact (heap_setCell_other _ _ _ _ (show b ≠ w2.heap.size by omega)).trans (HY.out.2.1.block b hbl)⟩)
        clear hxor hset hX hX2 d0 e0 HI2
        generalize byteAt al M ^^^ X = nv at *
        generalize UInt8.ofNat X = xx at *
        obtain ⟨W6, hW6⟩ : ∃ W6, W6 = (W5.setCell ⟨w2.heap.size, M, none⟩ (.int .u8 (nv : Nat))).drew := ⟨_, rfl⟩
        go_wp2_with fail
        rw [← hW6] at HW6 ⊢
        clear hcv2 hW6
        refine (frames_c (turnB (frs us) M xx) (by rw [turnB_len]; have := HL.out; omega) _).mono ?_
        rintro e w7 ⟨cs, rc, v7, rfl, h1, h2, h3⟩
        obtain ⟨vd, ve, rfl⟩ := h2.form
        have HC := Lib.hid h1
        have HE := Lib.hid (show w7.ownsRow W.heap.size 3 1 (.slice a1 k c1) k (endsL us k) ∧ Below W.heap.size W w7 from ⟨own_keep HW6.out.2 fun b hb => h3.block b (HW6.out.2.lt b hb).2, HW6.out.1.trans (h3.mono HW6.out.1.size)⟩)
        clear h1 h2 h3 HW6
        obtain ⟨pre, t, post, hus, hp1, hp2⟩ := frs_split (ts := us) (m := M) (by rw [← HL.out]; exact hML)
        have HP := Lib.hid (And.intro hus (And.intro hp1 hp2))
        have hpk : pre.length < k := by have := HM.out.1; rw [hus] at this; simp at this; omega
        have hp1i : ((frs pre).length : Int) ≤ (M : Int) := by omega
        have HU := Lib.hid (ends_at hus)
        clear hus hp1 hp2
        obtain ⟨ge, rfl, hck⟩ : ∃ ge, a1 = some ⟨ge, 0, none⟩ ∧ k ≤ c1 := by
          rcases HE.out.1.2 with ⟨e, h0⟩ | ⟨g, cp, cur, e, _, _, hn, _⟩
          · omega
          · injection e with e1 e2 e3
            exact ⟨g, e1, by omega⟩
        have hcki : (k : Int) ≤ (c1 : Int) := by omega
        have hkk : (k : Int) ≤ 10 := by omega
        go_wp2_with fail
        go_loop [17, 18] (fun vn vs => ∃ j : Nat, vn = .int .i64 j ∧ vs = .int .i64 ((frs (us.take j)).length : Nat) ∧ j ≤ pre.length) (fun vn _ => 11 - (intOf vn).toNat)
        case atStart => exact ⟨0, rfl, rfl, Nat.zero_le _⟩
        case round =>
          obtain ⟨j, rfl, rfl, hj⟩ := hrel
          by_cases hjp : j < pre.length
          · have c0 := own_cell HE.out.1 rfl j _ (endsL_get us (by omega))
            have hle : ((frs (us.take (j + 1))).length : Int) ≤ (M : Int) := by
              have h1 := frs_take_le us (show j + 1 ≤ pre.length by omega)
              rw [HU.out.1] at h1
              omega
            have hji : (j : Int) < (k : Int) := by omega
            have hj0 : (0 : Int) ≤ (j : Int) := by omega
            have hw : IntKind.i64.wrap ((j : Int) + 1) = (j : Int) + 1 := IntWalk.i64_in _ (by omega)
            generalize hE : (frs (us.take (j + 1))).length = E at *
            have HEE := Lib.hid hE
            clear hE
            go_wp2_with fail
            go_round
            case rel => exact ⟨j + 1, by go_num, by rw [HEE.out], by omega⟩
            case measure => simp [intOf]; omega
          · obtain rfl : j = pre.length := by omega
            have c0 := own_cell HE.out.1 rfl pre.length _ (endsL_get us hpk)
            rw [HU.out.2] at c0
            have hnle : ¬ (((frs pre).length + (fr t).length : Nat) : Int) ≤ (M : Int) := by have := HP.out.2.2; omega
            have hji : (pre.length : Int) < (k : Int) := by omega
            have hj0 : (0 : Int) ≤ (pre.length : Int) := by omega
            rw [HU.out.1]
            have hws : wrap64 ((M : Int) - ((frs pre).length : Int)) = (M : Int) - ((frs pre).length : Int) := IntWalk.wrap64_in _ (by omega)
            by_cases h4 : (M : Int) - ((frs pre).length : Int) < 4
            · generalize (frs pre).length + (fr t).length = Z at *
              have HB := Lib.hid HE.out.2
              go_wp2_with fail
              go_ret
              exact ⟨rfl, HB.out⟩
            · obtain ⟨⟨rcut, hcut⟩, hturn⟩ := back_pure (pre := pre) (post := post) (t := t) (by rw [← HP.out.1]; exact fun u hu => Nat.le_trans (HN.out.2.2.2 u hu) (by omega)) HP.out.2.1 HP.out.2.2
              obtain ⟨rt, ht⟩ := hturn (by omega) xx hx0
              rw [← HP.out.1] at hcut ht
              obtain ⟨hcp, _⟩ := HC.out.inj ht
              have hst2 := str_take (frs us) M
              rw [HAL.out] at hst2
              have hMLe : (M : Int) ≤ (L : Int) := by omega
              have HCU := Lib.hid hcut
              have hz2 : ((frs us).take M).length ≤ 1080 := by rw [List.length_take]; omega
              rw [hcp]
              have HE2 := Lib.hid (And.intro hcp hz2)
              generalize (frs pre).length + (fr t).length = Z at *
              clear hcut ht hturn hcp hz2
              go_wp2_with fail
              refine (frames_c ((frs us).take M) (by have := HE2.out.2; omega) _).mono ?_
              rintro e w8 ⟨l8, r8, v8, rfl, h1, h2, h3⟩
              obtain ⟨rfl, _⟩ := h1.inj HCU.out
              obtain ⟨vf, vg, rfl⟩ := h2.form
              have HB := Lib.hid (HE.out.2.trans (h3.mono HE.out.2.size))
              have c1 := own_cell (own_keep HE.out.1 (fun b hb => h3.block b (HE.out.1.lt b hb).2)) rfl (l8.length - 1) _ (endsL_get us (by omega))
              clear h1 h2 h3 c0
              by_cases h0 : l8.length = 0
              · have hl8 : l8 = [] := List.eq_nil_of_length_eq_zero h0
                have hfz : (frs l8).length = 0 := by rw [hl8]; rfl
                clear c1 hl8
                rw [h0, hfz]
                go_wp2_with fail
                go_ret
                exact ⟨rfl, HB.out⟩
              · have hpos : (0 : Int) < (l8.length : Int) := by omega
                have hne0 : ((l8.length : Int) == 0) = false := by rw [beq_eq_false_iff_ne]; omega
                have hsub : wrap64 ((l8.length : Int) - 1) = ((l8.length - 1 : Nat) : Int) := by rw [IntWalk.wrap64_in _ (by omega)]; omega
                have hsub2 : IntKind.i64.wrap ((l8.length : Int) - 1) = ((l8.length - 1 : Nat) : Int) := by rw [IntWalk.i64_in _ (by omega)]; omega
                rw [show l8.length - 1 + 1 = l8.length by omega, HU.out.1] at c1
                have hlt1 : ((l8.length - 1 : Nat) : Int) < (k : Int) := by omega
                have hge1 : (0 : Int) ≤ ((l8.length - 1 : Nat) : Int) := by omega
                have hti : ((l8.length : Int) - 1).toNat = l8.length - 1 := by omega
                have hsi : (l8.length : Int) - 1 = ((l8.length - 1 : Nat) : Int) := by omega
                generalize l8.length - 1 = pm at *
                generalize (frs l8).length = fl at *
                clear hp1i h4 hws hjp hji hj0 hj hpk h0
                generalize l8.length = pn at *
                go_wp2_with fail
                go_ret
                exact ⟨rfl, HB.out⟩
end Go.Proofs.Ytoiooohdenfpmaa
