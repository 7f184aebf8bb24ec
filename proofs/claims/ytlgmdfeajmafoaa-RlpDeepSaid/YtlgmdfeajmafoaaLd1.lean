/- Lists in one another. -/
import Derived.Test.YtlgmdfeajmafoaaLt1
import Derived.Test.YtlgmdfeajmafoaaDraw
namespace Go.Proofs.Ytlgmdfeajmafoaa
open Go.RowKit

def nest : Nat → It
  | 0 => .text []
  | k + 1 => .list ((nest k).fo .nil)
theorem fo_dep (x : It) : (x.fo .nil).dep = x.dep := by cases x <;> simp [It.fo, It.dep, Fo.dep]
theorem nest_dep (k : Nat) : (nest k).dep = k + 1 := by
  induction k with
  | zero => rfl
  | succ k ih => show ((nest k).fo .nil).dep + 1 = _; rw [fo_dep, ih]
theorem nest_siz (k : Nat) : ((nest k).fo .nil).siz = k + 1 := by
  induction k with
  | zero => rfl
  | succ k ih => show ((nest k).fo .nil).siz + 0 + 1 = _; rw [ih]
theorem nest_enc (k : Nat) (hk : k ≤ 81) : (nest k).enc.length ≤ 3 * k + 1 := by
  induction k with
  | zero => decide
  | succ k ih =>
    have h := ih (by omega)
    show (hd 192 ((nest k).fo .nil).enc.length ++ ((nest k).fo .nil).enc).length ≤ _
    rw [List.length_append, It.enc_fo']
    have h1 := hd_len 192 (nest k).enc.length
    have h2 := num_length_le (n := (nest k).enc.length) 2 (by simp; omega)
    omega
theorem nest_sho (k : Nat) : (nest k).sho.length = 2 * k + 2 := by
  induction k with
  | zero => rfl
  | succ k ih =>
    have : (nest (k + 1)).sho = [91] ++ (nest k).sho ++ [93] := by simp [nest, It.sho, It.fo, Fo.sho]
    rw [this]
    simp [ih]; omega
theorem fo_len1 (x : It) : (x.fo .nil).len = 1 := by cases x <;> rfl
theorem one_slf {S : Nat → Prop} {x : It} {b : Bool} {s : ByteArray} {a : Option Addr} {n c : Nat} {W : World} (h : ItV S x (.agg #[.bool b, .string s, .slice a n c]) W) (hS : ∀ k, S k → k < W.heap.size) :
    SlF (fun k => S k ∨ k = W.heap.size) (x.fo .nil) (.slice (some ⟨W.heap.size, 0, none⟩) 1 1) (W.alloc (.cells #[.bool b, .string s, .slice a n c] 27)) := by
  obtain ⟨b', s', l', he, _, hc⟩ := h.cel
  injection he with he
  have he2 := congrArg Array.toList he
  simp at he2
  obtain ⟨rfl, rfl, rfl⟩ := he2
  refine Or.inr ⟨W.heap.size, 0, 1, by rw [fo_len1], Or.inr rfl, by rw [fo_len1]; exact Nat.le_refl _, ?_⟩
  refine Cel.at _ [.bool b, .string s, .slice a n c] 0 (fun j u hj => ?_) ((hc.kept (fun k hk => Below.heap_alloc _ _ _ (hS k hk)) _ _).mono (fun k hk => Or.inl hk) _ _)
  rw [Nat.zero_add, cell_of (heap_alloc_new W _)]
  simpa using hj
set_option maxRecDepth 100000 in
set_option maxHeartbeats 4000000 in
theorem deep_c (n : Nat) (hn : n < 256) (w : World) : Calls Try.prog 7 #[.int .u8 n] w fun e w' => e = .returned (.bool true) ∧ Below w.heap.size w w' := by
  go_enter Try.func7, Try.ntmps7
  go_wp2_with fail
  go_at_call 10
  refine (examples_c _).mono ?_
  rintro e W1 ⟨rfl, hb⟩
  have B1 := Lib.hid hb
  clear hb
  go_wp2_with fail
  go_at_call 23
  refine (textA_c _ _).mono ?_
  rintro e W2 ⟨rfl, hb⟩
  have hgW : w.heap.size ≤ W2.heap.size := Nat.le_trans B1.out.size hb.size
  have B2 := Lib.hid (bel_then (bel_then B1.out hb) (bel_al W2 (.cells #[.bool false, .string ⟨#[]⟩, .slice none 0 0] 27)))
  obtain ⟨K, hK, hK80⟩ : ∃ K : Nat, (n : Int) % 81 = (K : Int) ∧ K ≤ 80 := ⟨n % 81, by omega, by omega⟩
  obtain ⟨g, hg⟩ : ∃ g, g = W2.heap.size := ⟨_, rfl⟩
  have h0 := heap_alloc_new W2 (.cells #[.bool false, .string ⟨#[]⟩, .slice none 0 0] 27)
  rw [← hg] at h0 hgW
  have HG := Lib.hid hgW
  clear hb B1 hgW hn
  rw [hK]
  go_wp2_with fail
  rw [← hg]
  have H0 := Lib.hid h0
  clear h0 hg hK
  have HK := Lib.hid (And.intro trivial hK80)
  clear hK80
  go_loopw [6] (fun j wr => ∃ (k : Nat) (b : Bool) (s : ByteArray) (a : Option Addr) (m c : Nat), j = .int .i64 k ∧ k ≤ K ∧ wr.heap[g]? = some (.cells #[.bool b, .string s, .slice a m c] 27 (0, 0)) ∧ ItV (fun i => i ≠ g ∧ i < wr.heap.size) (nest k) (.agg #[.bool b, .string s, .slice a m c]) wr ∧ Below w.heap.size w wr) (fun j _ => K - (intOf j).toNat)
  case atStart => exact ⟨0, false, ⟨#[]⟩, none, 0, 0, rfl, Nat.zero_le _, H0.out, rfl, B2.out⟩
  case round =>
    clear H0 B2
    obtain ⟨k, b, s, a, m, c, rfl, hk, h1, h2, h3⟩ := hrel
    by_cases hlt : k < K
    · have hki : (k : Int) < (K : Int) := by omega
      have hk2 : (k : Int) < 80 := by have := HK.out.2; omega
      obtain ⟨⟨c0, c1, c2⟩, _⟩ := cells3 h1
      have hglt := lt_of h1
      have HL := Lib.hid (listS_c _ _ _ _ (one_slf h2 (fun i hi => hi.2)) (fun i hi => by simp only [alloc_size]; omega) (by rw [nest_siz]; omega))
      have H := Lib.hid (And.intro h1 (And.intro h2 h3))
      have HLt := Lib.hid (And.intro trivial (And.intro hlt hglt))
      clear h1 h2 h3 hlt hglt hk
      go_wp2_with fail
      go_at_call 24
      refine HL.out.mono ?_
      rintro e W3 ⟨u, rfl, hu, hb⟩
      obtain ⟨b3, s3, a3, m3, n3, rfl⟩ := hu.form
      have hb2 := bel_then (bel_al wr (.cells #[.bool b, .string s, .slice a m c] 27)) hb
      have hblk := (hb2.block _ HLt.out.2.2).trans H.out.1
      obtain ⟨⟨d0, d1, d2⟩, z0, z1, z2⟩ := cells3 hblk
      have hz := heap_set3 hblk (.bool b3) (.string s3) (.slice a3 m3 n3)
      have hB := below_set3 (H.out.2.2.trans (hb2.mono H.out.2.2.size)) HG.out (.bool b3) (.string s3) (.slice a3 m3 n3)
      have hsz2 := hb2.size
      have hsz3 := hb.size
      simp only [alloc_size] at hsz3 hu
      have hne : ∀ i, i ≠ g → (((W3.setCell ⟨g, 0, none⟩ (.bool b3)).setCell ⟨g, 1, none⟩ (.string s3)).setCell ⟨g, 2, none⟩ (.slice a3 m3 n3)).heap[i]? = W3.heap[i]? := fun i hi => by
        rw [heap_setCell_other _ _ _ _ (by simpa using hi), heap_setCell_other _ _ _ _ (by simpa using hi), heap_setCell_other _ _ _ _ (by simpa using hi)]
      have hgl := HLt.out.2.2
      have hnew : ItV (fun i => i ≠ g ∧ i < (((W3.setCell ⟨g, 0, none⟩ (.bool b3)).setCell ⟨g, 1, none⟩ (.string s3)).setCell ⟨g, 2, none⟩ (.slice a3 m3 n3)).heap.size) (nest (k + 1)) (.agg #[.bool b3, .string s3, .slice a3 m3 n3]) (((W3.setCell ⟨g, 0, none⟩ (.bool b3)).setCell ⟨g, 1, none⟩ (.string s3)).setCell ⟨g, 2, none⟩ (.slice a3 m3 n3)) := by
        have hu' : ItV (fun i => i ≠ g ∧ i < W3.heap.size) (nest (k + 1)) (.agg #[.bool b3, .string s3, .slice a3 m3 n3]) W3 := hu.mono (fun i hi => by
          rcases hi with (hi | hi) | hi
          · exact ⟨hi.1, by omega⟩
          · exact ⟨by omega, by omega⟩
          · exact ⟨by omega, by omega⟩)
        refine (hu'.kept (fun i hi => hne i hi.1)).mono (fun i hi => ⟨hi.1, by simpa [World.setCell] using hi.2⟩)
      have HN := Lib.hid (And.intro hz (And.intro hnew hB))
      clear hu hb hb2 hblk hz hB hsz2 hsz3 hne hgl hnew H
      go_wp2_with fail
      exact ⟨⟨k + 1, _, _, _, _, _, rfl, HLt.out.2.1, HN.out.1, HN.out.2.1, HN.out.2.2⟩, less_step k K HLt.out.2.1⟩
    · have hkK : k = K := by omega
      subst hkK
      have hki : ¬ (k : Int) < (k : Int) := by omega
      obtain ⟨⟨c0, c1, c2⟩, _⟩ := cells3 h1
      have hx := nest_enc k (by have := HK.out.2; omega)
      have hx2 := (nest k).evs_len
      have hk80 := HK.out.2
      have HE := Lib.hid (encode_c _ (nest k) _ wr (fun i hi => hi.2) h2 (by omega) (by omega))
      have H := Lib.hid (And.intro h1 (And.intro h2 h3))
      have HX := Lib.hid (And.intro hx hx2)
      clear h1 h2 h3 hk hlt hx hx2 hk80 HG
      go_wp2_with fail
      go_at_call 15
      refine HE.out.mono ?_
      rintro e W4 ⟨rfl, hb⟩
      have hblk := (hb.block _ (lt_of H.out.1)).trans H.out.1
      have hv4 := H.out.2.1.kept (W' := W4) (fun i hi => hb.block i hi.2)
      have hsz4 := hb.size
      have H4 := Lib.hid (And.intro hblk (And.intro (hv4.mono (fun i hi => (⟨hi.1, by omega⟩ : i ≠ g ∧ i < W4.heap.size))) (H.out.2.2.trans (hb.mono H.out.2.2.size))))
      clear hb hblk hv4 hsz4 H HE c0 c1 c2
      go_wp2_with fail
      go_at_call 21
      refine (decode_c (nest k).enc _).mono ?_
      rintro e W5 ⟨hb, h⟩
      have hM : (nest k).enc.length < M64 := by have := HX.out.1; have := HK.out.2; unfold M64; omega
      rw [if_neg (by have := HX.out.1; have := HK.out.2; omega), decP_it _ hM, nest_dep] at h
      have hsz5 := hb.size
      have hv5 := (H4.out.2.1.kept (W' := W5) (fun i hi => hb.block i hi.2)).mono (fun i hi => (⟨hi.1, by omega⟩ : i ≠ g ∧ i < W5.heap.size))
      have hblk5 := (hb.block _ (lt_of H4.out.1)).trans H4.out.1
      have hB5 := H4.out.2.2.trans (hb.mono H4.out.2.2.size)
      obtain ⟨g7, hg7⟩ : ∃ g7, g7 = W5.heap.size := ⟨_, rfl⟩
      have hgl5 := lt_of hblk5
      by_cases hk64 : k ≤ 64
      · rw [if_pos (by omega)] at h
        obtain ⟨x, v, hx, rfl, hv⟩ := h
        obtain rfl : x = nest k := by
          cases x <;> cases hn : nest k <;> rw [hn] at hx <;> simp [It.fo] at hx <;> simp [hx]
        obtain ⟨b7, s7, a7, m7, c7, rfl⟩ := hv.form
        have hA := bel_al W5 (.cells #[.bool b7, .string s7, .slice a7 m7 c7] 27)
        have HF := Lib.hid (And.intro ((hA.block _ hgl5).trans hblk5) (And.intro (show (W5.alloc (.cells #[.bool b7, .string s7, .slice a7 m7 c7] 27)).heap[g7]? = some (.cells #[.bool b7, .string s7, .slice a7 m7 c7] 27 (0, 0)) by rw [hg7]; exact heap_alloc_new _ _) (And.intro (hv5.kept (W' := W5.alloc (.cells #[.bool b7, .string s7, .slice a7 m7 c7] 27)) (fun i hi => hA.block i hi.2)) (And.intro (hv.kept (W' := W5.alloc (.cells #[.bool b7, .string s7, .slice a7 m7 c7] 27)) (fun i hi => hA.block i hi.2)) (hB5.trans (hA.mono hB5.size))))))
        have hsA := hA.size
        have hev : (nest k).evs.length < 900000 := by have := HX.out.1; have := HX.out.2; have := HK.out.2; omega
        have hsh : (nest k).sho.length ≤ 90000000 := by rw [nest_sho]; have := HK.out.2; omega
        have HV := Lib.hid (And.intro hev hsh)
        have hA2 := Lib.hid hsA
        have hi64 : (k : Int) ≤ 64 := by omega
        have hi64' : ¬ (64 : Int) < (k : Int) := by omega
        clear hb hv5 hblk5 hB5 hv hA hev hsh hgl5 hsA hM hsz5 H4 hx
        go_wp2_with fail
        rw [← hg7]
        clear hg7
        have H0 := And.intro HF.out.1 HF.out.2.1
        have HS := Lib.hid (fun (V : World) (hV : V.heap[g]? = some (.cells #[.bool b, .string s, .slice a m c] 27 (0, 0)) ∧ V.heap[g7]? = some (.cells #[.bool b7, .string s7, .slice a7 m7 c7] 27 (0, 0))) => And.intro (cells3 hV.1).1 (cells3 hV.2).1)
        refine Drawn.start (fun V => V.heap[g]? = some (.cells #[.bool b, .string s, .slice a m c] 27 (0, 0)) ∧ V.heap[g7]? = some (.cells #[.bool b7, .string s7, .slice a7 m7 c7] 27 (0, 0))) (fun _ => false) (by kernel_rfl) ?_
        refine Drawn.take 0 (some 30) (v := ?_) rfl rfl (by kernel_rfl) (by kernel_rfl) (by kernel_rfl) (by kernel_rfl) (by kernel_rfl) rfl (fun _ _ _ h => h) (Or.inl ⟨rfl, ?_⟩) H0 ?_
        rotate_left
        · intro W hW; have hW := HS.out W hW; go_simp; try with_reducible rfl
        simp only [put_list, List.set]
        refine Drawn.take 1 (some 31) (v := ?_) rfl rfl (by kernel_rfl) (by kernel_rfl) (by kernel_rfl) (by kernel_rfl) (by kernel_rfl) rfl (fun _ _ _ h => h) (Or.inl ⟨rfl, ?_⟩) H0 ?_
        rotate_left
        · intro W hW; have hW := HS.out W hW; go_simp; try with_reducible rfl
        simp only [put_list, List.set]
        refine Drawn.take 2 (some 32) (v := ?_) rfl rfl (by kernel_rfl) (by kernel_rfl) (by kernel_rfl) (by kernel_rfl) (by kernel_rfl) rfl (fun _ _ _ h => h) (Or.inl ⟨rfl, ?_⟩) H0 ?_
        rotate_left
        · intro W hW; have hW := HS.out W hW; go_simp; try with_reducible rfl
        simp only [put_list, List.set]
        refine Drawn.take 3 (some 33) (v := ?_) rfl rfl (by kernel_rfl) (by kernel_rfl) (by kernel_rfl) (by kernel_rfl) (by kernel_rfl) rfl (fun _ _ _ h => h) (Or.inl ⟨rfl, ?_⟩) H0 ?_
        rotate_left
        · intro W hW; have hW := HS.out W hW; go_simp; try with_reducible rfl
        simp only [put_list, List.set]
        refine Drawn.take 4 (some 34) (v := ?_) rfl rfl (by kernel_rfl) (by kernel_rfl) (by kernel_rfl) (by kernel_rfl) (by kernel_rfl) rfl (fun _ _ _ h => h) (Or.inl ⟨rfl, ?_⟩) H0 ?_
        rotate_left
        · intro W hW; have hW := HS.out W hW; go_simp; try with_reducible rfl
        simp only [put_list, List.set]
        refine Drawn.take 5 (some 35) (v := .bool true) rfl rfl (by kernel_rfl) (by kernel_rfl) (by kernel_rfl) (by kernel_rfl) (by kernel_rfl) rfl (fun _ _ _ h => h) (Or.inl ⟨rfl, ?_⟩) H0 ?_
        · intro W hW; have hW := HS.out W hW; first | (go_simp; done) | (go_simp; simp [hi64, hi64'])
        simp only [put_list, List.set]
        refine Drawn.take 6 (some 36) (v := .bool true) rfl rfl (by kernel_rfl) (by kernel_rfl) (by kernel_rfl) (by kernel_rfl) (by kernel_rfl) rfl (fun _ _ _ h => h) (Or.inl ⟨rfl, ?_⟩) H0 ?_
        · intro W hW; have hW := HS.out W hW; first | (go_simp; done) | (go_simp; simp [hi64, hi64'])
        simp only [put_list, List.set]
        refine Drawn.take 7 (some 37) (v := ?_) rfl rfl (by kernel_rfl) (by kernel_rfl) (by kernel_rfl) (by kernel_rfl) (by kernel_rfl) rfl (fun _ _ _ h => h) (Or.inl ⟨rfl, ?_⟩) H0 ?_
        rotate_left
        · intro W hW; have hW := HS.out W hW; go_simp; try with_reducible rfl
        simp only [put_list, List.set]
        refine Drawn.take 8 (some 38) (v := ?_) rfl rfl (by kernel_rfl) (by kernel_rfl) (by kernel_rfl) (by kernel_rfl) (by kernel_rfl) rfl (fun _ _ _ h => h) (Or.inl ⟨rfl, ?_⟩) H0 ?_
        rotate_left
        · intro W hW; have hW := HS.out W hW; go_simp; try with_reducible rfl
        simp only [put_list, List.set]
        refine Drawn.take 9 (some 39) (v := ?_) rfl rfl (by kernel_rfl) (by kernel_rfl) (by kernel_rfl) (by kernel_rfl) (by kernel_rfl) rfl (fun _ _ _ h => h) (Or.inl ⟨rfl, ?_⟩) H0 ?_
        rotate_left
        · intro W hW; have hW := HS.out W hW; go_simp; try with_reducible rfl
        simp only [put_list, List.set]
        refine Drawn.take 10 (some 40) (v := .bool false) rfl rfl (by kernel_rfl) (by kernel_rfl) (by kernel_rfl) (by kernel_rfl) (by kernel_rfl) rfl (fun _ _ _ h => h) (Or.inl ⟨rfl, ?_⟩) H0 ?_
        · intro W hW; have hW := HS.out W hW; first | (go_simp; done) | (go_simp; simp [hi64, hi64'])
        simp only [put_list, List.set]
        refine Drawn.take 11 (some 41) (v := ?_) rfl rfl (by kernel_rfl) (by kernel_rfl) (by kernel_rfl) (by kernel_rfl) (by kernel_rfl) rfl (fun _ _ _ h => h) (Or.inl ⟨rfl, ?_⟩) H0 ?_
        rotate_left
        · intro W hW; have hW := HS.out W hW; go_simp; try with_reducible rfl
        simp only [put_list, List.set]
        refine Drawn.take 12 (some 42) (v := ?_) rfl rfl (by kernel_rfl) (by kernel_rfl) (by kernel_rfl) (by kernel_rfl) (by kernel_rfl) rfl (fun _ _ _ h => h) (Or.inl ⟨rfl, ?_⟩) H0 ?_
        rotate_left
        · intro W hW; have hW := HS.out W hW; go_simp; try with_reducible rfl
        simp only [put_list, List.set]
        refine Drawn.take 14 (some 44) (v := ?_) rfl rfl (by kernel_rfl) (by kernel_rfl) (by kernel_rfl) (by kernel_rfl) (by kernel_rfl) rfl (fun _ _ _ h => h) (Or.inl ⟨rfl, ?_⟩) H0 ?_
        rotate_left
        · intro W hW; have hW := HS.out W hW; go_simp; try with_reducible rfl
        simp only [put_list, List.set]
        have HC := Lib.hid (show_c (fun i => W4.heap.size ≤ i ∧ i < W5.heap.size) (nest k) _ (W5.alloc (.cells #[.bool b7, .string s7, .slice a7 m7 c7] 27)).drew (by exact fun i hi => Nat.lt_of_lt_of_le hi.2 hA2.out) (HF.out.2.2.2.1.kept (W := (W5.alloc (.cells #[.bool b7, .string s7, .slice a7 m7 c7] 27))) (W' := (W5.alloc (.cells #[.bool b7, .string s7, .slice a7 m7 c7] 27)).drew) (fun _ _ => rfl)) HV.out.1 HV.out.2)
        refine Drawn.only 13 (by kernel_rfl) rfl rfl (fun K' hK' => ?_)
        go_simp
        refine (HC.out).mono ?_
        rintro e W7 ⟨rfl, hb⟩
        have H0 := And.intro ((hb.block _ (lt_of H0.1)).trans H0.1) ((hb.block _ (lt_of H0.2)).trans H0.2)
        have B7 := Lib.hid (bel_then (Lib.hid (Below.refl _ (W5.alloc (.cells #[.bool b7, .string s7, .slice a7 m7 c7] 27)).drew)).out hb)
        refine hK' _ _ (fun _ _ => H0) ?_
        clear hK' K' hb
        try simp only [put_list, List.set]
        have HC := Lib.hid (show_c (fun i => i ≠ g ∧ i < W5.heap.size) (nest k) _ W7 (by exact fun i hi => Nat.lt_of_lt_of_le hi.2 (Nat.le_trans hA2.out B7.out.size)) (HF.out.2.2.1.kept (W := (W5.alloc (.cells #[.bool b7, .string s7, .slice a7 m7 c7] 27))) (W' := W7) (fun i hi => B7.out.block i (Nat.lt_of_lt_of_le hi.2 hA2.out))) HV.out.1 HV.out.2)
        refine Drawn.only 15 (by kernel_rfl) rfl rfl (fun K' hK' => ?_)
        go_simp
        refine (HC.out).mono ?_
        rintro e W8 ⟨rfl, hb⟩
        have H0 := And.intro ((hb.block _ (lt_of H0.1)).trans H0.1) ((hb.block _ (lt_of H0.2)).trans H0.2)
        have B8 := Lib.hid (bel_then B7.out hb)
        refine hK' _ _ (fun _ _ => H0) ?_
        clear hK' K' hb
        try simp only [put_list, List.set]
        refine Drawn.take 16 (some 46) (v := ?_) rfl rfl (by kernel_rfl) (by kernel_rfl) (by kernel_rfl) (by kernel_rfl) (by kernel_rfl) rfl (fun _ _ _ h => h) (Or.inl ⟨rfl, ?_⟩) H0 ?_
        rotate_left
        · intro W hW; have hW := HS.out W hW; go_simp; try with_reducible rfl
        simp only [put_list, List.set]
        refine Drawn.take 17 (some 47) (v := ?_) rfl rfl (by kernel_rfl) (by kernel_rfl) (by kernel_rfl) (by kernel_rfl) (by kernel_rfl) rfl (fun _ _ _ h => h) (Or.inl ⟨rfl, ?_⟩) H0 ?_
        rotate_left
        · intro W hW; have hW := HS.out W hW; go_simp; try with_reducible rfl
        simp only [put_list, List.set]
        refine Drawn.take 18 (some 48) (v := ?_) rfl rfl (by kernel_rfl) (by kernel_rfl) (by kernel_rfl) (by kernel_rfl) (by kernel_rfl) rfl (fun _ _ _ h => h) (Or.inl ⟨rfl, ?_⟩) H0 ?_
        rotate_left
        · intro W hW; have hW := HS.out W hW; go_simp; try with_reducible rfl
        simp only [put_list, List.set]
        refine Drawn.take 19 (some 2) (v := ?_) rfl rfl (by kernel_rfl) (by kernel_rfl) (by kernel_rfl) (by kernel_rfl) (by kernel_rfl) rfl (fun _ _ _ h => h) (Or.inl ⟨rfl, ?_⟩) H0 ?_
        rotate_left
        · intro W hW; have hW := HS.out W hW; go_simp; try with_reducible rfl
        simp only [put_list, List.set]
        refine Drawn.done (by kernel_rfl) ?_ _
        clear HS
        go_wp2_with fail
        go_ret
        exact ⟨rfl, HF.out.2.2.2.2.drew.trans (B8.out.mono HF.out.2.2.2.2.drew.size)⟩
      · rw [if_neg (by omega)] at h
        rw [h]
        unfold zeroV
        have hA := bel_al W5 (.cells #[.bool false, .string ⟨#[]⟩, .slice none 0 0] 27)
        have HF := Lib.hid (And.intro ((hA.block _ hgl5).trans hblk5) (And.intro (show (W5.alloc (.cells #[.bool false, .string ⟨#[]⟩, .slice none 0 0] 27)).heap[g7]? = some (.cells #[.bool false, .string ⟨#[]⟩, .slice none 0 0] 27 (0, 0)) by rw [hg7]; exact heap_alloc_new _ _) (hB5.trans (hA.mono hB5.size))))
        have hi64 : ¬ (k : Int) ≤ 64 := by omega
        have hi64' : (64 : Int) < (k : Int) := by omega
        clear hb hv5 hblk5 hB5 hA hgl5 hM hsz5 H4 h
        go_wp2_with fail
        rw [← hg7]
        clear hg7
        have H0 := And.intro HF.out.1 HF.out.2.1
        have HS := Lib.hid (fun (V : World) (hV : V.heap[g]? = some (.cells #[.bool b, .string s, .slice a m c] 27 (0, 0)) ∧ V.heap[g7]? = some (.cells #[.bool false, .string ⟨#[]⟩, .slice none 0 0] 27 (0, 0))) => And.intro (cells3 hV.1).1 (cells3 hV.2).1)
        refine Drawn.start (fun V => V.heap[g]? = some (.cells #[.bool b, .string s, .slice a m c] 27 (0, 0)) ∧ V.heap[g7]? = some (.cells #[.bool false, .string ⟨#[]⟩, .slice none 0 0] 27 (0, 0))) (fun _ => false) (by kernel_rfl) ?_
        refine Drawn.take 0 (some 30) (v := ?_) rfl rfl (by kernel_rfl) (by kernel_rfl) (by kernel_rfl) (by kernel_rfl) (by kernel_rfl) rfl (fun _ _ _ h => h) (Or.inl ⟨rfl, ?_⟩) H0 ?_
        rotate_left
        · intro W hW; have hW := HS.out W hW; go_simp; try with_reducible rfl
        simp only [put_list, List.set]
        refine Drawn.take 1 (some 31) (v := ?_) rfl rfl (by kernel_rfl) (by kernel_rfl) (by kernel_rfl) (by kernel_rfl) (by kernel_rfl) rfl (fun _ _ _ h => h) (Or.inl ⟨rfl, ?_⟩) H0 ?_
        rotate_left
        · intro W hW; have hW := HS.out W hW; go_simp; try with_reducible rfl
        simp only [put_list, List.set]
        refine Drawn.take 2 (some 32) (v := ?_) rfl rfl (by kernel_rfl) (by kernel_rfl) (by kernel_rfl) (by kernel_rfl) (by kernel_rfl) rfl (fun _ _ _ h => h) (Or.inl ⟨rfl, ?_⟩) H0 ?_
        rotate_left
        · intro W hW; have hW := HS.out W hW; go_simp; try with_reducible rfl
        simp only [put_list, List.set]
        refine Drawn.take 3 (some 33) (v := .bool false) rfl rfl (by kernel_rfl) (by kernel_rfl) (by kernel_rfl) (by kernel_rfl) (by kernel_rfl) rfl (fun _ _ _ h => h) (Or.inl ⟨rfl, ?_⟩) H0 ?_
        · intro W hW; have hW := HS.out W hW; first | (go_simp; done) | (go_simp; simp [hi64, hi64'])
        simp only [put_list, List.set]
        refine Drawn.take 4 (some 34) (v := ?_) rfl rfl (by kernel_rfl) (by kernel_rfl) (by kernel_rfl) (by kernel_rfl) (by kernel_rfl) rfl (fun _ _ _ h => h) (Or.inl ⟨rfl, ?_⟩) H0 ?_
        rotate_left
        · intro W hW; have hW := HS.out W hW; go_simp; try with_reducible rfl
        simp only [put_list, List.set]
        refine Drawn.take 5 (some 35) (v := .bool false) rfl rfl (by kernel_rfl) (by kernel_rfl) (by kernel_rfl) (by kernel_rfl) (by kernel_rfl) rfl (fun _ _ _ h => h) (Or.inl ⟨rfl, ?_⟩) H0 ?_
        · intro W hW; have hW := HS.out W hW; first | (go_simp; done) | (go_simp; simp [hi64, hi64'])
        simp only [put_list, List.set]
        refine Drawn.take 6 (some 36) (v := .bool true) rfl rfl (by kernel_rfl) (by kernel_rfl) (by kernel_rfl) (by kernel_rfl) (by kernel_rfl) rfl (fun _ _ _ h => h) (Or.inl ⟨rfl, ?_⟩) H0 ?_
        · intro W hW; have hW := HS.out W hW; first | (go_simp; done) | (go_simp; simp [hi64, hi64'])
        simp only [put_list, List.set]
        refine Drawn.take 7 (some 37) (v := ?_) rfl rfl (by kernel_rfl) (by kernel_rfl) (by kernel_rfl) (by kernel_rfl) (by kernel_rfl) rfl (fun _ _ _ h => h) (Or.inl ⟨rfl, ?_⟩) H0 ?_
        rotate_left
        · intro W hW; have hW := HS.out W hW; go_simp; try with_reducible rfl
        simp only [put_list, List.set]
        refine Drawn.take 8 (some 38) (v := ?_) rfl rfl (by kernel_rfl) (by kernel_rfl) (by kernel_rfl) (by kernel_rfl) (by kernel_rfl) rfl (fun _ _ _ h => h) (Or.inl ⟨rfl, ?_⟩) H0 ?_
        rotate_left
        · intro W hW; have hW := HS.out W hW; go_simp; try with_reducible rfl
        simp only [put_list, List.set]
        refine Drawn.take 9 (some 39) (v := ?_) rfl rfl (by kernel_rfl) (by kernel_rfl) (by kernel_rfl) (by kernel_rfl) (by kernel_rfl) rfl (fun _ _ _ h => h) (Or.inl ⟨rfl, ?_⟩) H0 ?_
        rotate_left
        · intro W hW; have hW := HS.out W hW; go_simp; try with_reducible rfl
        simp only [put_list, List.set]
        refine Drawn.take 10 (some 40) (v := .bool true) rfl rfl (by kernel_rfl) (by kernel_rfl) (by kernel_rfl) (by kernel_rfl) (by kernel_rfl) rfl (fun _ _ _ h => h) (Or.inl ⟨rfl, ?_⟩) H0 ?_
        · intro W hW; have hW := HS.out W hW; first | (go_simp; done) | (go_simp; simp [hi64, hi64'])
        simp only [put_list, List.set]
        refine Drawn.take 11 (some 41) (v := ?_) rfl rfl (by kernel_rfl) (by kernel_rfl) (by kernel_rfl) (by kernel_rfl) (by kernel_rfl) rfl (fun _ _ _ h => h) (Or.inl ⟨rfl, ?_⟩) H0 ?_
        rotate_left
        · intro W hW; have hW := HS.out W hW; go_simp; try with_reducible rfl
        simp only [put_list, List.set]
        refine Drawn.take 12 (some 42) (v := undef) rfl rfl (by kernel_rfl) (by kernel_rfl) (by kernel_rfl) (by kernel_rfl) (by kernel_rfl) rfl (fun _ _ _ h => h) (Or.inr ⟨rfl, rfl⟩) H0 ?_
        simp only [put_list, List.set]
        refine Drawn.take 13 (some 43) (v := undef) rfl rfl (by kernel_rfl) (by kernel_rfl) (by kernel_rfl) (by kernel_rfl) (by kernel_rfl) rfl (fun _ _ _ h => h) (Or.inr ⟨rfl, rfl⟩) H0 ?_
        simp only [put_list, List.set]
        refine Drawn.take 14 (some 44) (v := undef) rfl rfl (by kernel_rfl) (by kernel_rfl) (by kernel_rfl) (by kernel_rfl) (by kernel_rfl) rfl (fun _ _ _ h => h) (Or.inr ⟨rfl, rfl⟩) H0 ?_
        simp only [put_list, List.set]
        refine Drawn.take 15 (some 45) (v := undef) rfl rfl (by kernel_rfl) (by kernel_rfl) (by kernel_rfl) (by kernel_rfl) (by kernel_rfl) rfl (fun _ _ _ h => h) (Or.inr ⟨rfl, rfl⟩) H0 ?_
        simp only [put_list, List.set]
        refine Drawn.take 16 (some 46) (v := undef) rfl rfl (by kernel_rfl) (by kernel_rfl) (by kernel_rfl) (by kernel_rfl) (by kernel_rfl) rfl (fun _ _ _ h => h) (Or.inr ⟨rfl, rfl⟩) H0 ?_
        simp only [put_list, List.set]
        refine Drawn.take 17 (some 47) (v := ?_) rfl rfl (by kernel_rfl) (by kernel_rfl) (by kernel_rfl) (by kernel_rfl) (by kernel_rfl) rfl (fun _ _ _ h => h) (Or.inl ⟨rfl, ?_⟩) H0 ?_
        rotate_left
        · intro W hW; have hW := HS.out W hW; go_simp; try with_reducible rfl
        simp only [put_list, List.set]
        refine Drawn.take 18 (some 48) (v := ?_) rfl rfl (by kernel_rfl) (by kernel_rfl) (by kernel_rfl) (by kernel_rfl) (by kernel_rfl) rfl (fun _ _ _ h => h) (Or.inl ⟨rfl, ?_⟩) H0 ?_
        rotate_left
        · intro W hW; have hW := HS.out W hW; go_simp; try with_reducible rfl
        simp only [put_list, List.set]
        refine Drawn.take 19 (some 2) (v := ?_) rfl rfl (by kernel_rfl) (by kernel_rfl) (by kernel_rfl) (by kernel_rfl) (by kernel_rfl) rfl (fun _ _ _ h => h) (Or.inl ⟨rfl, ?_⟩) H0 ?_
        rotate_left
        · intro W hW; have hW := HS.out W hW; go_simp; try with_reducible rfl
        simp only [put_list, List.set]
        refine Drawn.done (by kernel_rfl) ?_ _
        clear HS
        go_wp2_with fail
        go_ret
        exact ⟨rfl, HF.out.2.2.drew⟩
end Go.Proofs.Ytlgmdfeajmafoaa
