/- OpText: the law's walk (written by genUbc.py). -/
import Derived.Test.YtfcmcccfclaefaaDoorUbb
import Derived.Test.YtfcmcccfclaefaaDoorDraw
import Derived.Test.YtfcmcccfclaefaaDoorUw
import Derived.Test.YtfcmcccfclaefaaDoorUz
import Derived.Deep.QuietTactic
import Derived.BigQuiet
import Derived.Deep.CutRange
import Derived.Laws.BitsAllLaws
namespace Go.Proofs.YtfcmcccfclaefaaDoor
open Go.RowKit Go.Maps Go.Shelf Mp

theorem and15 (k : Nat) (h : k < 65536) : bits .and .u16 (k : Int) 15 = ((k % 16 : Nat) : Int) := by
  rw [show (15 : Int) = ((15 : Nat) : Int) from rfl, u16_and_nat k 15 h (by omega), show k &&& 15 = k % 16 from Nat.and_two_pow_sub_one_eq_mod k 4]
theorem slice_head {T E : TypeId} (hu : Tryd.prog.underlying T = some (.slice E)) {z : Nat} (hz : ∀ w, (sizeOf E).run Tryd.prog w = .ok z w) (pa : Option Addr) (len N cap : Nat) (hN : N ≤ cap) (hp : pa = none → cap = 0) (W : World) :
    (Instr.slice T (.slice pa len cap) none (some (.int .i64 (N : Nat))) none).run Tryd.prog W = .ok (.slice pa N cap) W := by
  have h1 : (N : Int) ≤ (cap : Int) := by omega
  have he : Tryd.prog.elem T = E := by simp [Program.elem, hu]
  have hu2 : Tryd.prog.underlying T = some (.slice (Tryd.prog.elem T)) := by rw [he]; exact hu
  cases pa with
  | none =>
    obtain rfl := hp rfl
    obtain rfl : N = 0 := by omega
    go_simp
  | some a =>
    go_simp
set_option maxRecDepth 100000 in
set_option maxHeartbeats 16000000 in
theorem text_true {pa : Option Addr} {len cap : Nat} {ws0 : List Nat} {W : World} (hA : Hw W pa ws0) (hl : ws0.length = len) (hc : len ≤ cap) (hn : pa = none → cap = 0) (hok : ∀ w ∈ ws0, w < 65536) :
    Calls Tryd.prog 7 #[.slice pa len cap, .bool true] W fun e W' => e = .returned (.bool true) ∧ Below W.heap.size W W' := by
  obtain ⟨N, hN⟩ : ∃ N, N = min len 20 := ⟨_, rfl⟩
  have hs := slice_head (z := 1) Tryd.underlying44 (fun w => by kernel_rfl) pa len N cap (by omega) hn
  have hm : ∀ q : Int, q = (if (20 : Int) < (len : Int) then 20 else (len : Int)) → q = (N : Int) := fun q hq => by
    rw [hq, hN]
    split <;> omega
  have HM := Lib.hid hm
  obtain ⟨ws, hws⟩ : ∃ ws, ws = ws0.take N := ⟨_, rfl⟩
  have hwl : ws.length = N := by rw [hws, List.length_take]; omega
  have hHw : Hw W pa ws := fun i w hi => by
    rw [hws] at hi
    have hiN : i < N := by
      rcases Nat.lt_or_ge i N with h | h
      · exact h
      · rw [List.getElem?_eq_none (by rw [List.length_take]; omega)] at hi; cases hi
    rw [List.getElem?_take_of_lt hiN] at hi
    exact hA i w hi
  have hwk : ∀ w ∈ ws, w < 65536 := fun w hw => hok w (by rw [hws] at hw; exact List.mem_of_mem_take hw)
  have HW := Lib.hid (And.intro hHw (And.intro hwl hwk))
  have C1 := Lib.hid (fun V => exam_c V)
  have hbl : (bytesW true ws).length ≤ 60 := by have := bytesW_len true ws; omega
  have C2 := Lib.hid (fun V => text_c (bytesW true ws ++ [1, 12]) (by rw [List.length_append]; simp; omega) V)
  rw [lines_words true ws 0 hwk, ← str_app] at C2
  have hz1 : (str (bytesW true ws)).size ≤ 60 := by rw [str_size]; exact hbl
  have HBL := Lib.hid hbl
  rw [show str [1, 12] = { data := #[1, 12] } from rfl] at C2
  obtain ⟨sb, hsb⟩ : ∃ sb, sb = str (bytesW true ws) := ⟨_, rfl⟩
  rw [← hsb] at C2 hz1
  have HSB := Lib.hid hsb
  have hN2 : (N : Int) ≤ 20 := by omega
  clear hA hl hc hn hok hN hm hws hwl hHw hwk hbl hsb
  go_enter Tryd.func7, Tryd.ntmps7
  go_wp2_with fail
  refine (C1.out _).mono ?_
  rintro e V1 ⟨rfl, h1⟩
  have H1 := Lib.hid (show Ow W [] (.slice none 0 0) V1 from ⟨⟨rfl, Or.inl ⟨rfl, rfl⟩⟩, h1⟩)
  clear h1 C1
  go_upto_region 6 with (refine run_min2 (by rfl) _ _ _ (by rfl) _ _ (by rfl) (by rfl) ?_; intro q hq0; obtain rfl := HM.out q hq0; clear hq0)
  go_wp2_with fail
  go_loopw [6, 7] (fun bv iv wr => ∃ i : Nat, i ≤ N ∧ iv = .int .i64 (i : Nat) ∧ Ow W (bytesW true (ws.take i)) bv wr) (fun _ iv _ => N - (intOf iv).toNat)
  case atStart => exact ⟨0, Nat.zero_le _, rfl, H1.out⟩
  case round =>
    clear H1
    obtain ⟨i, hi, rfl, h⟩ := hrel
    by_cases hlt : i < N
    · have hlt2 : (i : Int) < (N : Int) := by omega
      obtain ⟨w, hw⟩ : ∃ w, ws[i]? = some w := ⟨_, List.getElem?_eq_getElem (by rw [HW.out.2.1]; exact hlt)⟩
      have hw6 := HW.out.2.2 w (List.mem_of_getElem? hw)
      obtain ⟨g, o, rfl, hgw, hcw⟩ := HW.out.1 i w hw
      have hg : g < wr.heap.size := Nat.lt_of_lt_of_le hgw h.below.size
      have hcell : wr.cell? ⟨g, o + i, none⟩ = some (.int .u16 (w : Nat)) := (World.cell?_of_block (a := ⟨g, o + i, none⟩) (h.below.block g hgw)).trans hcw
      have HGW := Lib.hid hgw
      clear hgw hcw
      have hbn := bytesW_snoc true hw
      have hbl2 : (bytesW true (ws.take i)).length < 100 := by have h1 := bytesW_len true (ws.take i); rw [List.length_take] at h1; omega
      obtain ⟨hi8, hh⟩ : ∃ hi8, hi8 = w / 256 := ⟨_, rfl⟩
      obtain ⟨lo8, hlo⟩ : ∃ lo8, lo8 = w % 256 := ⟨_, rfl⟩
      have y1 : (w : Int) / 256 = (hi8 : Int) := by omega
      have y2 : (w : Int) % 256 = (lo8 : Int) := by omega
      have y3 : (hi8 : Int) % 256 = (hi8 : Int) := by omega
      have y4 : (w : Int) ≤ 65535 := by omega
      have y5 : (hi8 : Int) ≤ 255 := by omega
      have hcs : (#[.int .u8 97, .int .u8 (hi8 : Nat), .int .u8 (lo8 : Nat)] : Array Value) = (Lib.byteCells [97, UInt8.ofNat hi8, UInt8.ofNat lo8]).toArray := by
        show _ = (#[.int .u8 97, .int .u8 ((UInt8.ofNat hi8).toNat : Int), .int .u8 ((UInt8.ofNat lo8).toNat : Int)] : Array Value)
        rw [u8_at (by omega), u8_at (by omega)]
      have hwb : wordB true w = [97, UInt8.ofNat hi8, UInt8.ofNat lo8] := by rw [hh, hlo]; rfl
      rw [hwb] at hbn
      have HX := Lib.hid (And.intro h (And.intro hbn (And.intro hbl2 (And.intro hcs hg))))
      obtain ⟨sa, sc, hv⟩ := own_any h.row
      obtain ⟨n, hn⟩ : ∃ n, n = (bytesW true (ws.take i)).length := ⟨_, rfl⟩
      rw [← hn] at hv
      subst hv
      have HN := Lib.hid hn
      clear h hbn hbl2 hcs hw hg hw6 hh hlo hwb hn
      go_wp2_with fail
      have y6 : IntKind.u8.wrap (hi8 : Int) = (hi8 : Int) := by rw [IntKind.wrap_u8]; exact y3
      have y7 : IntKind.u8.wrap (w : Int) = (lo8 : Int) := by rw [IntKind.wrap_u8]; exact y2
      have H0 : wr.drew.cell? ⟨g, o + i, none⟩ = some (.int .u16 (w : Nat)) := hcell
      have HS := Lib.hid (fun (U : World) (hU : U.cell? ⟨g, o + i, none⟩ = some (.int .u16 (w : Nat))) => hU)
      have HX1 := Lib.hid (HX.out.1.call (Below.refl _ _).drew)
      refine Drawn.start (fun U => U.cell? ⟨g, o + i, none⟩ = some (.int .u16 (w : Nat))) (fun _ => false) (by kernel_rfl) ?_
      generalize World.drew wr = V2 at *
      refine Drawn.take 0 (some 28) (v := ?_) rfl rfl (by kernel_rfl) (by kernel_rfl) (by kernel_rfl) (by kernel_rfl) (by kernel_rfl) rfl (fun _ _ _ h => h) (Or.inl ⟨rfl, ?_⟩) H0 ?_
      rotate_left
      · intro W hW; have hW := HS.out W hW; go_simp; try with_reducible rfl
      simp only [put_list, List.set]
      refine Drawn.take 1 (some 29) (v := ?_) rfl rfl (by kernel_rfl) (by kernel_rfl) (by kernel_rfl) (by kernel_rfl) (by kernel_rfl) rfl (fun _ _ _ h => h) (Or.inl ⟨rfl, ?_⟩) H0 ?_
      rotate_left
      · intro W hW; have hW := HS.out W hW; go_simp; try with_reducible rfl
      simp only [put_list, List.set]
      refine Drawn.take 2 (some 30) (v := ?_) rfl rfl (by kernel_rfl) (by kernel_rfl) (by kernel_rfl) (by kernel_rfl) (by kernel_rfl) rfl (fun _ _ _ h => h) (Or.inl ⟨rfl, ?_⟩) H0 ?_
      rotate_left
      · intro W hW; have hW := HS.out W hW; go_simp; try with_reducible rfl
      simp only [put_list, List.set]
      refine Drawn.take 3 (some 31) (v := ?_) rfl rfl (by kernel_rfl) (by kernel_rfl) (by kernel_rfl) (by kernel_rfl) (by kernel_rfl) rfl (fun _ _ _ h => h) (Or.inl ⟨rfl, ?_⟩) H0 ?_
      rotate_left
      · intro W hW; have hW := HS.out W hW; go_simp; try with_reducible rfl
      simp only [put_list, List.set]
      refine Drawn.take 4 (some 32) (v := ?_) rfl rfl (by kernel_rfl) (by kernel_rfl) (by kernel_rfl) (by kernel_rfl) (by kernel_rfl) rfl (fun _ _ _ h => h) (Or.inl ⟨rfl, ?_⟩) H0 ?_
      rotate_left
      · intro W hW; have hW := HS.out W hW; go_simp; try with_reducible rfl
      simp only [put_list, List.set]
      refine Drawn.take 5 (some 33) (v := ?_) rfl rfl (by kernel_rfl) (by kernel_rfl) (by kernel_rfl) (by kernel_rfl) (by kernel_rfl) rfl (fun _ _ _ h => h) (Or.inl ⟨rfl, ?_⟩) H0 ?_
      rotate_left
      · intro W hW; have hW := HS.out W hW; go_simp; try with_reducible rfl
      simp only [put_list, List.set]
      refine Drawn.take 6 (some 34) (v := ?_) rfl rfl (by kernel_rfl) (by kernel_rfl) (by kernel_rfl) (by kernel_rfl) (by kernel_rfl) rfl (fun _ _ _ h => h) (Or.inl ⟨rfl, ?_⟩) H0 ?_
      rotate_left
      · intro W hW; have hW := HS.out W hW; go_simp; try with_reducible rfl
      simp only [put_list, List.set]
      refine Drawn.take 7 (some 35) (v := ?_) rfl rfl (by kernel_rfl) (by kernel_rfl) (by kernel_rfl) (by kernel_rfl) (by kernel_rfl) rfl (fun _ _ _ h => h) (Or.inl ⟨rfl, ?_⟩) H0 ?_
      rotate_left
      · intro W hW; have hW := HS.out W hW; go_simp; try with_reducible rfl
      simp only [put_list, List.set]
      refine Drawn.take 8 (some 36) (v := ?_) rfl rfl (by kernel_rfl) (by kernel_rfl) (by kernel_rfl) (by kernel_rfl) (by kernel_rfl) rfl (fun _ _ _ h => h) (Or.inl ⟨rfl, ?_⟩) H0 ?_
      rotate_left
      · intro W hW; have hW := HS.out W hW; go_simp; try with_reducible rfl
      simp only [put_list, List.set]
      refine Drawn.take 9 (some 37) (v := ?_) rfl rfl (by kernel_rfl) (by kernel_rfl) (by kernel_rfl) (by kernel_rfl) (by kernel_rfl) rfl (fun _ _ _ h => h) (Or.inl ⟨rfl, ?_⟩) H0 ?_
      rotate_left
      · intro W hW; have hW := HS.out W hW; go_simp; try with_reducible rfl
      simp only [put_list, List.set]
      refine Drawn.take 10 (some 38) (v := ?_) rfl rfl (by kernel_rfl) (by kernel_rfl) (by kernel_rfl) (by kernel_rfl) (by kernel_rfl) rfl (fun _ _ _ h => h) (Or.inl ⟨rfl, ?_⟩) H0 ?_
      rotate_left
      · intro W hW; have hW := HS.out W hW; go_simp; try with_reducible rfl
      simp only [put_list, List.set]
      refine Drawn.take 11 (some 39) (v := ?_) rfl rfl (by kernel_rfl) (by kernel_rfl) (by kernel_rfl) (by kernel_rfl) (by kernel_rfl) rfl (fun _ _ _ h => h) (Or.inl ⟨rfl, ?_⟩) H0 ?_
      rotate_left
      · intro W hW; have hW := HS.out W hW; go_simp; try with_reducible rfl
      simp only [put_list, List.set]
      refine Drawn.only 12 (by kernel_rfl) rfl rfl (fun K hK => ?_)
      go_simp
      have HAB : Below V2.heap.size V2 (V2.alloc (.cells #[.int .u8 97, .int .u8 (hi8 : Nat), .int .u8 (lo8 : Nat)] 5)) := (Below.refl _ _).alloc (Nat.le_refl _) _
      have hsz := HX1.out.below.size
      have H3 : (V2.alloc (.cells #[.int .u8 97, .int .u8 (hi8 : Nat), .int .u8 (lo8 : Nat)] 5)).cell? ⟨g, o + i, none⟩ = some (.int .u16 (w : Nat)) := (World.cell?_of_block (a := ⟨g, o + i, none⟩) (HAB.block _ (Nat.lt_of_lt_of_le HGW.out hsz))).trans H0
      have HX2 := Lib.hid (HX1.out.call HAB)
      have HG := Lib.hid (show g < (V2.alloc (.cells #[.int .u8 97, .int .u8 (hi8 : Nat), .int .u8 (lo8 : Nat)] 5)).heap.size by rw [alloc_size]; have := HGW.out; omega)
      have hq := heap_alloc_new V2 (.cells #[.int .u8 97, .int .u8 (hi8 : Nat), .int .u8 (lo8 : Nat)] 5 (0, 0))
      refine hK _ _ (fun _ _ => H3) ?_
      clear hK K HX1 H0 HAB hsz
      try simp only [put_list, List.set]
      refine Drawn.only 13 (by kernel_rfl) rfl rfl (fun K hK => ?_)
      refine wp_append_bytes _ _ (by rfl) (by rfl) HX2.out.row HX2.out.below.size [97, UInt8.ofNat hi8, UInt8.ofNat lo8] (m := 3) rfl (by rfl) hq HX.out.2.2.2.1 (by have := HX.out.2.2.1; show _ + 3 < _; omega) ?_
      intro v9 V9 h2 h3
      rw [← HX.out.2.1] at h2
      have hgb : V9.cell? ⟨g, o + i, none⟩ = some (.int .u16 (w : Nat)) := (World.cell?_of_block (a := ⟨g, o + i, none⟩) (h3.block _ HG.out (fun e => by have h7 := (World.ownsRow.lt HX2.out.row g e.symm).1; have h8 := HGW.out; omega))).trans H3
      have H9 := Lib.hid (HX2.out.more h2 h3)
      refine hK _ _ (fun _ _ => hgb) ?_
      clear hK K h2 h3 H3 hq
      try simp only [put_list, List.set]
      refine Drawn.only 14 (by kernel_rfl) rfl rfl (fun K hK => ?_)
      try go_simp
      refine hK _ _ (fun _ _ => hgb) ?_
      clear hK K
      try simp only [put_list, List.set]
      refine Drawn.done (by kernel_rfl) ?_ _
      clear hgb HS HX2 HG y6 y7
      go_wp2_with fail
      go_roundw
      case rel => exact ⟨i + 1, by omega, by go_num, H9.out⟩
      case measure => simp [intOf]; omega
    · obtain rfl : i = N := by omega
      rw [List.take_of_length_le (by rw [HW.out.2.1]; exact Nat.le_refl _)] at h
      have hcv := conv_own h.row
      rw [← HSB.out] at hcv
      have HX := Lib.hid h.below
      have hz2 : ¬ 9223372036854775807 < sb.size + 2 := by omega
      generalize hs2 : sb ++ { data := #[1, 12] } = sb2 at *
      clear h
      go_wp2_with fail
      refine (C2.out _).mono ?_
      rintro e V3 ⟨v3, rfl, h2, h3⟩
      have H3 := Lib.hid (And.intro (Row.of_own h2) (HX.out.trans (h3.mono HX.out.size)))
      clear h2 h3 HX C2 hcv
      obtain ⟨a3, c3, rfl⟩ := H3.out.1.slice (n := i + 2) (by simp [rowT, HW.out.2.1])
      obtain ⟨g3, rfl, k3⟩ := H3.out.1.at (j := i) (u := .string { data := #[65, 68, 68] }) (by rw [rowT, List.map_append, List.getElem?_append_right (by simp [HW.out.2.1]), List.length_map, List.length_map, HW.out.2.1, Nat.sub_self]; rfl)
      obtain ⟨g4, hg4, k4⟩ := H3.out.1.at (j := i + 1) (u := .string { data := #[63, 48, 99] }) (by rw [rowT, List.map_append, List.getElem?_append_right (by simp [HW.out.2.1]), List.length_map, List.length_map, HW.out.2.1, Nat.add_sub_cancel_left]; rfl)
      obtain rfl : g3 = g4 := by cases hg4; rfl
      clear hg4
      go_wp2_with fail
      have H4 := Lib.hid (Below.refl V3.heap.size V3)
      clear k3 k4
      go_loopw [10] (fun jv wr => ∃ j : Nat, j ≤ i ∧ jv = .int .i64 (j : Nat) ∧ Below V3.heap.size V3 wr) (fun jv _ => i - (intOf jv).toNat)
      case atStart => exact ⟨0, Nat.zero_le _, rfl, H4.out⟩
      case round =>
        clear H4
        obtain ⟨j, hj, rfl, hb⟩ := hrel
        by_cases hjN : j < i
        · have hj2 : (j : Int) < (i : Int) := by omega
          obtain ⟨w, hw⟩ : ∃ w, ws[j]? = some w := ⟨_, List.getElem?_eq_getElem (by rw [HW.out.2.1]; exact hjN)⟩
          have hw6 := HW.out.2.2 w (List.mem_of_getElem? hw)
          obtain ⟨g, o, rfl, hgw, hcw⟩ := HW.out.1 j w hw
          have hcell : wr.cell? ⟨g, o + j, none⟩ = some (.int .u16 (w : Nat)) := ((World.cell?_of_block (a := ⟨g, o + j, none⟩) (hb.block g (Nat.lt_of_lt_of_le hgw H3.out.2.size))).trans (World.cell?_of_block (a := ⟨g, o + j, none⟩) (H3.out.2.block g hgw))).trans hcw
          obtain ⟨g5, hg5, k5⟩ := (H3.out.1.call hb).at (j := j) (u := .string (str (wantT true w))) (by rw [rowT, List.map_append, List.getElem?_append_left (by simp [HW.out.2.1]; exact hjN)]; simp [hw])
          obtain rfl : g3 = g5 := by cases hg5; rfl
          obtain ⟨d4, hd4⟩ : ∃ d, d = w / 4096 := ⟨_, rfl⟩
          obtain ⟨d3, hd3⟩ : ∃ d, d = w / 256 % 16 := ⟨_, rfl⟩
          obtain ⟨d2, hd2⟩ : ∃ d, d = w / 16 % 16 := ⟨_, rfl⟩
          obtain ⟨d1, hd1⟩ : ∃ d, d = w % 16 := ⟨_, rfl⟩
          have x4 : (w : Int) / 4096 = (d4 : Int) := by omega
          have x3 : (w : Int) / 256 % 16 = (d3 : Int) := by omega
          have x2 : (w : Int) / 16 % 16 = (d2 : Int) := by omega
          have x1 : (w : Int) % 16 = (d1 : Int) := by omega
          have e4 := ext_at (n := d4) (by omega)
          have e3 := ext_at (n := d3) (by omega)
          have e2 := ext_at (n := d2) (by omega)
          have e1 := ext_at (n := d1) (by omega)
          have l4 : (d4 : Int) < 16 := by omega
          have l3 : (d3 : Int) < 16 := by omega
          have l2 : (d2 : Int) < 16 := by omega
          have l1 : (d1 : Int) < 16 := by omega
          have w1 : IntKind.u16.wrap ((d1 : Int) + 1) = (d1 : Int) + 1 := by rw [IntKind.wrap_u16]; omega
          have w2 : IntKind.u16.wrap ((d2 : Int) + 1) = (d2 : Int) + 1 := by rw [IntKind.wrap_u16]; omega
          have w3 : IntKind.u16.wrap ((d3 : Int) + 1) = (d3 : Int) + 1 := by rw [IntKind.wrap_u16]; omega
          have w4 : IntKind.u16.wrap ((d4 : Int) + 1) = (d4 : Int) + 1 := by rw [IntKind.wrap_u16]; omega
          have w0 : (w : Int) ≤ 65535 := by omega
          have v1 : bits .and .u16 (w : Int) 15 = (d1 : Int) := by rw [and15 w hw6, hd1]
          have v2 : bits .and .u16 ((w : Int) / 16) 15 = (d2 : Int) := by rw [show (w : Int) / 16 = ((w / 16 : Nat) : Int) from by omega, and15 _ (by omega), hd2]
          have v3 : bits .and .u16 ((w : Int) / 256) 15 = (d3 : Int) := by rw [show (w : Int) / 256 = ((w / 256 : Nat) : Int) from by omega, and15 _ (by omega), hd3]
          have m1 : ((d1 : Int) + 1).toNat = d1 + 1 ∧ (0 : Int) ≤ (d1 : Int) + 1 ∧ (d1 : Int) + 1 ≤ 16 ∧ (d1 : Int) ≤ (d1 : Int) + 1 := by omega
          have m2 : ((d2 : Int) + 1).toNat = d2 + 1 ∧ (0 : Int) ≤ (d2 : Int) + 1 ∧ (d2 : Int) + 1 ≤ 16 ∧ (d2 : Int) ≤ (d2 : Int) + 1 := by omega
          have m3 : ((d3 : Int) + 1).toNat = d3 + 1 ∧ (0 : Int) ≤ (d3 : Int) + 1 ∧ (d3 : Int) + 1 ≤ 16 ∧ (d3 : Int) ≤ (d3 : Int) + 1 := by omega
          have m4 : ((d4 : Int) + 1).toNat = d4 + 1 ∧ (0 : Int) ≤ (d4 : Int) + 1 ∧ (d4 : Int) + 1 ≤ 16 ∧ (d4 : Int) ≤ (d4 : Int) + 1 := by omega
          obtain ⟨m11, m12, m13, m14⟩ := m1
          obtain ⟨m21, m22, m23, m24⟩ := m2
          obtain ⟨m31, m32, m33, m34⟩ := m3
          obtain ⟨m41, m42, m43, m44⟩ := m4
          have ha := str_app [hexD d2] [hexD d1]
          have hlow : [hexD d2] ++ [hexD d1] = lowT w := by rw [hd2, hd1]; rfl
          rw [hlow] at ha
          have hb4 := str_app [80, 85, 83, 72, 49, 32, 48, 120] (lowT w)
          rw [show str [80, 85, 83, 72, 49, 32, 48, 120] = { data := #[80, 85, 83, 72, 49, 32, 48, 120] } from rfl] at hb4
          generalize str ([80, 85, 83, 72, 49, 32, 48, 120] ++ lowT w) = wrong at hb4
          have hb1 := str_app [80, 85, 83, 72, 50, 32, 48, 120] [hexD d4]
          have hb2 := str_app ([80, 85, 83, 72, 50, 32, 48, 120] ++ [hexD d4]) [hexD d3]
          have hb3 := str_app ([80, 85, 83, 72, 50, 32, 48, 120] ++ [hexD d4] ++ [hexD d3]) (lowT w)
          rw [show [80, 85, 83, 72, 50, 32, 48, 120] ++ [hexD d4] ++ [hexD d3] ++ lowT w = wantT true w by rw [hd4, hd3]; rfl] at hb3
          rw [show str [80, 85, 83, 72, 50, 32, 48, 120] = { data := #[80, 85, 83, 72, 50, 32, 48, 120] } from rfl] at hb1
          have z1 : (str [hexD d1]).size = 1 := rfl
          have z2 : (str [hexD d2]).size = 1 := rfl
          have z3 : (str (lowT w)).size = 2 := rfl
          have z4 : ¬ 9223372036854775807 < (str [hexD d2]).size + (str [hexD d1]).size := by rw [z1, z2]; omega
          have z5 : ¬ 9223372036854775807 < 8 + (str (lowT w)).size := by rw [z3]; omega
          have z6 : ¬ 9223372036854775807 < 8 + (str [hexD d4]).size := by rw [show (str [hexD d4]).size = 1 from rfl]; omega
          have z7 : ¬ 9223372036854775807 < (str ([80, 85, 83, 72, 50, 32, 48, 120] ++ [hexD d4])).size + (str [hexD d3]).size := by rw [show (str ([80, 85, 83, 72, 50, 32, 48, 120] ++ [hexD d4])).size = 9 from rfl, show (str [hexD d3]).size = 1 from rfl]; omega
          have z8 : ¬ 9223372036854775807 < (str ([80, 85, 83, 72, 50, 32, 48, 120] ++ [hexD d4] ++ [hexD d3])).size + (str (lowT w)).size := by rw [show (str ([80, 85, 83, 72, 50, 32, 48, 120] ++ [hexD d4] ++ [hexD d3])).size = 10 from rfl, z3]; omega
          clear z1 z2 z3
          generalize str ([80, 85, 83, 72, 50, 32, 48, 120] ++ [hexD d4] ++ [hexD d3]) = p2 at *
          generalize str ([80, 85, 83, 72, 50, 32, 48, 120] ++ [hexD d4]) = p1 at *
          have HB := Lib.hid hb
          clear hb hw hw6 hgw hcw hg5 hd1 hd2 hd3 hd4 hlow
          generalize str [hexD d1] = t1 at *
          generalize str [hexD d2] = t2 at *
          generalize str [hexD d3] = t3 at *
          generalize str [hexD d4] = t4 at *
          generalize str (lowT w) = lo at *
          generalize str (wantT true w) = wn at *
          go_wp2_with fail
          go_quiet (fail)
          have hcell2 : (wr.drewN nq).cell? ⟨g, o + j, none⟩ = some (.int .u16 (w : Nat)) := hcell
          have k52 : (wr.drewN nq).cell? ⟨g3, j, none⟩ = some (.string wn) := k5
          have HB2 := Lib.hid (show Below V3.heap.size V3 (wr.drewN nq) from below_drewN HB.out nq)
          clear hcell k5
          generalize World.drewN wr nq = V9 at *
          go_wp2_with fail
          go_quiet (fail)
          have k53 : (V9.drewN nq).cell? ⟨g3, j, none⟩ = some (.string wn) := k52
          replace HB2 := Lib.hid (show Below V3.heap.size V3 (V9.drewN nq) from below_drewN HB2.out nq)
          clear hcell2 k52
          generalize World.drewN V9 nq = V10 at *
          clear m11 m12 m13 m14 m21 m22 m23 m24 m31 m32 m33 m34 m41 m42 m43 m44 v1 v2 v3 w1 w2 w3 w4
          go_wp2_with fail
          go_roundw
          case rel => exact ⟨j + 1, by omega, by go_num, HB2.out⟩
          case measure => simp [intOf]; omega
        · obtain rfl : j = i := by omega
          have HB := Lib.hid hb
          clear hb
          go_wp2_with fail
          go_ret
          exact ⟨rfl, H3.out.2.trans (HB.out.mono H3.out.2.size)⟩
set_option maxRecDepth 100000 in
set_option maxHeartbeats 16000000 in
theorem text_false {pa : Option Addr} {len cap : Nat} {ws0 : List Nat} {W : World} (hA : Hw W pa ws0) (hl : ws0.length = len) (hc : len ≤ cap) (hn : pa = none → cap = 0) (hok : ∀ w ∈ ws0, w < 65536) :
    Calls Tryd.prog 7 #[.slice pa len cap, .bool false] W fun e W' => e = .returned (.bool true) ∧ Below W.heap.size W W' := by
  obtain ⟨N, hN⟩ : ∃ N, N = min len 20 := ⟨_, rfl⟩
  have hs := slice_head (z := 1) Tryd.underlying44 (fun w => by kernel_rfl) pa len N cap (by omega) hn
  have hm : ∀ q : Int, q = (if (20 : Int) < (len : Int) then 20 else (len : Int)) → q = (N : Int) := fun q hq => by
    rw [hq, hN]
    split <;> omega
  have HM := Lib.hid hm
  obtain ⟨ws, hws⟩ : ∃ ws, ws = ws0.take N := ⟨_, rfl⟩
  have hwl : ws.length = N := by rw [hws, List.length_take]; omega
  have hHw : Hw W pa ws := fun i w hi => by
    rw [hws] at hi
    have hiN : i < N := by
      rcases Nat.lt_or_ge i N with h | h
      · exact h
      · rw [List.getElem?_eq_none (by rw [List.length_take]; omega)] at hi; cases hi
    rw [List.getElem?_take_of_lt hiN] at hi
    exact hA i w hi
  have hwk : ∀ w ∈ ws, w < 65536 := fun w hw => hok w (by rw [hws] at hw; exact List.mem_of_mem_take hw)
  have HW := Lib.hid (And.intro hHw (And.intro hwl hwk))
  have C1 := Lib.hid (fun V => exam_c V)
  have hbl : (bytesW false ws).length ≤ 60 := by have := bytesW_len false ws; omega
  have C2 := Lib.hid (fun V => text_c (bytesW false ws ++ [1, 12]) (by rw [List.length_append]; simp; omega) V)
  rw [lines_words false ws 0 hwk, ← str_app] at C2
  have hz1 : (str (bytesW false ws)).size ≤ 60 := by rw [str_size]; exact hbl
  have HBL := Lib.hid hbl
  rw [show str [1, 12] = { data := #[1, 12] } from rfl] at C2
  obtain ⟨sb, hsb⟩ : ∃ sb, sb = str (bytesW false ws) := ⟨_, rfl⟩
  rw [← hsb] at C2 hz1
  have HSB := Lib.hid hsb
  have hN2 : (N : Int) ≤ 20 := by omega
  clear hA hl hc hn hok hN hm hws hwl hHw hwk hbl hsb
  go_enter Tryd.func7, Tryd.ntmps7
  go_wp2_with fail
  refine (C1.out _).mono ?_
  rintro e V1 ⟨rfl, h1⟩
  have H1 := Lib.hid (show Ow W [] (.slice none 0 0) V1 from ⟨⟨rfl, Or.inl ⟨rfl, rfl⟩⟩, h1⟩)
  clear h1 C1
  go_upto_region 6 with (refine run_min2 (by rfl) _ _ _ (by rfl) _ _ (by rfl) (by rfl) ?_; intro q hq0; obtain rfl := HM.out q hq0; clear hq0)
  go_wp2_with fail
  go_loopw [6, 7] (fun bv iv wr => ∃ i : Nat, i ≤ N ∧ iv = .int .i64 (i : Nat) ∧ Ow W (bytesW false (ws.take i)) bv wr) (fun _ iv _ => N - (intOf iv).toNat)
  case atStart => exact ⟨0, Nat.zero_le _, rfl, H1.out⟩
  case round =>
    clear H1
    obtain ⟨i, hi, rfl, h⟩ := hrel
    by_cases hlt : i < N
    · have hlt2 : (i : Int) < (N : Int) := by omega
      obtain ⟨w, hw⟩ : ∃ w, ws[i]? = some w := ⟨_, List.getElem?_eq_getElem (by rw [HW.out.2.1]; exact hlt)⟩
      have hw6 := HW.out.2.2 w (List.mem_of_getElem? hw)
      obtain ⟨g, o, rfl, hgw, hcw⟩ := HW.out.1 i w hw
      have hg : g < wr.heap.size := Nat.lt_of_lt_of_le hgw h.below.size
      have hcell : wr.cell? ⟨g, o + i, none⟩ = some (.int .u16 (w : Nat)) := (World.cell?_of_block (a := ⟨g, o + i, none⟩) (h.below.block g hgw)).trans hcw
      have HGW := Lib.hid hgw
      clear hgw hcw
      have hbn := bytesW_snoc false hw
      have hbl2 : (bytesW false (ws.take i)).length < 100 := by have h1 := bytesW_len false (ws.take i); rw [List.length_take] at h1; omega
      obtain ⟨hi8, hh⟩ : ∃ hi8, hi8 = w / 256 := ⟨_, rfl⟩
      obtain ⟨lo8, hlo⟩ : ∃ lo8, lo8 = w % 256 := ⟨_, rfl⟩
      have y1 : (w : Int) / 256 = (hi8 : Int) := by omega
      have y2 : (w : Int) % 256 = (lo8 : Int) := by omega
      have y3 : (hi8 : Int) % 256 = (hi8 : Int) := by omega
      have y4 : (w : Int) ≤ 65535 := by omega
      have y5 : (hi8 : Int) ≤ 255 := by omega
      have hcs : (#[.int .u8 96, .int .u8 (lo8 : Nat)] : Array Value) = (Lib.byteCells [96, UInt8.ofNat lo8]).toArray := by
        show _ = (#[.int .u8 96, .int .u8 ((UInt8.ofNat lo8).toNat : Int)] : Array Value)
        rw [u8_at (by omega)]
      have hwb : wordB false w = [96, UInt8.ofNat lo8] := by rw [hlo]; rfl
      rw [hwb] at hbn
      have HX := Lib.hid (And.intro h (And.intro hbn (And.intro hbl2 (And.intro hcs hg))))
      obtain ⟨sa, sc, hv⟩ := own_any h.row
      obtain ⟨n, hn⟩ : ∃ n, n = (bytesW false (ws.take i)).length := ⟨_, rfl⟩
      rw [← hn] at hv
      subst hv
      have HN := Lib.hid hn
      clear h hbn hbl2 hcs hw hg hw6 hh hlo hwb hn
      have HX2 := Lib.hid (HX.out.1.call ((Below.refl _ wr).alloc (Nat.le_refl _) (.cells #[.int .u8 96, .int .u8 (lo8 : Nat)] 5)))
      go_wp2_with (at_builtin; refine wpList_append_bytes (by rfl) _ _ (by rfl) (by rfl) HX2.out.row HX2.out.below.size [96, UInt8.ofNat lo8] (m := 2) rfl (by rfl) (heap_alloc_new wr (.cells #[.int .u8 96, .int .u8 (lo8 : Nat)] 5 (0, 0))) HX.out.2.2.2.1 (by have := HX.out.2.2.1; show _ + 2 < _; omega) ?_; intro v9 V9 h2 h3; rw [← HX.out.2.1] at h2; have H9 := Lib.hid (HX2.out.more h2 h3); clear h2 h3)
      go_roundw
      case rel => exact ⟨i + 1, by omega, by go_num, H9.out⟩
      case measure => simp [intOf]; omega
    · obtain rfl : i = N := by omega
      rw [List.take_of_length_le (by rw [HW.out.2.1]; exact Nat.le_refl _)] at h
      have hcv := conv_own h.row
      rw [← HSB.out] at hcv
      have HX := Lib.hid h.below
      have hz2 : ¬ 9223372036854775807 < sb.size + 2 := by omega
      generalize hs2 : sb ++ { data := #[1, 12] } = sb2 at *
      clear h
      go_wp2_with fail
      refine (C2.out _).mono ?_
      rintro e V3 ⟨v3, rfl, h2, h3⟩
      have H3 := Lib.hid (And.intro (Row.of_own h2) (HX.out.trans (h3.mono HX.out.size)))
      clear h2 h3 HX C2 hcv
      obtain ⟨a3, c3, rfl⟩ := H3.out.1.slice (n := i + 2) (by simp [rowT, HW.out.2.1])
      obtain ⟨g3, rfl, k3⟩ := H3.out.1.at (j := i) (u := .string { data := #[65, 68, 68] }) (by rw [rowT, List.map_append, List.getElem?_append_right (by simp [HW.out.2.1]), List.length_map, List.length_map, HW.out.2.1, Nat.sub_self]; rfl)
      obtain ⟨g4, hg4, k4⟩ := H3.out.1.at (j := i + 1) (u := .string { data := #[63, 48, 99] }) (by rw [rowT, List.map_append, List.getElem?_append_right (by simp [HW.out.2.1]), List.length_map, List.length_map, HW.out.2.1, Nat.add_sub_cancel_left]; rfl)
      obtain rfl : g3 = g4 := by cases hg4; rfl
      clear hg4
      go_wp2_with fail
      have H4 := Lib.hid (Below.refl V3.heap.size V3)
      clear k3 k4
      go_loopw [10] (fun jv wr => ∃ j : Nat, j ≤ i ∧ jv = .int .i64 (j : Nat) ∧ Below V3.heap.size V3 wr) (fun jv _ => i - (intOf jv).toNat)
      case atStart => exact ⟨0, Nat.zero_le _, rfl, H4.out⟩
      case round =>
        clear H4
        obtain ⟨j, hj, rfl, hb⟩ := hrel
        by_cases hjN : j < i
        · have hj2 : (j : Int) < (i : Int) := by omega
          obtain ⟨w, hw⟩ : ∃ w, ws[j]? = some w := ⟨_, List.getElem?_eq_getElem (by rw [HW.out.2.1]; exact hjN)⟩
          have hw6 := HW.out.2.2 w (List.mem_of_getElem? hw)
          obtain ⟨g, o, rfl, hgw, hcw⟩ := HW.out.1 j w hw
          have hcell : wr.cell? ⟨g, o + j, none⟩ = some (.int .u16 (w : Nat)) := ((World.cell?_of_block (a := ⟨g, o + j, none⟩) (hb.block g (Nat.lt_of_lt_of_le hgw H3.out.2.size))).trans (World.cell?_of_block (a := ⟨g, o + j, none⟩) (H3.out.2.block g hgw))).trans hcw
          obtain ⟨g5, hg5, k5⟩ := (H3.out.1.call hb).at (j := j) (u := .string (str (wantT false w))) (by rw [rowT, List.map_append, List.getElem?_append_left (by simp [HW.out.2.1]; exact hjN)]; simp [hw])
          obtain rfl : g3 = g5 := by cases hg5; rfl
          obtain ⟨d4, hd4⟩ : ∃ d, d = w / 4096 := ⟨_, rfl⟩
          obtain ⟨d3, hd3⟩ : ∃ d, d = w / 256 % 16 := ⟨_, rfl⟩
          obtain ⟨d2, hd2⟩ : ∃ d, d = w / 16 % 16 := ⟨_, rfl⟩
          obtain ⟨d1, hd1⟩ : ∃ d, d = w % 16 := ⟨_, rfl⟩
          have x4 : (w : Int) / 4096 = (d4 : Int) := by omega
          have x3 : (w : Int) / 256 % 16 = (d3 : Int) := by omega
          have x2 : (w : Int) / 16 % 16 = (d2 : Int) := by omega
          have x1 : (w : Int) % 16 = (d1 : Int) := by omega
          have e4 := ext_at (n := d4) (by omega)
          have e3 := ext_at (n := d3) (by omega)
          have e2 := ext_at (n := d2) (by omega)
          have e1 := ext_at (n := d1) (by omega)
          have l4 : (d4 : Int) < 16 := by omega
          have l3 : (d3 : Int) < 16 := by omega
          have l2 : (d2 : Int) < 16 := by omega
          have l1 : (d1 : Int) < 16 := by omega
          have w1 : IntKind.u16.wrap ((d1 : Int) + 1) = (d1 : Int) + 1 := by rw [IntKind.wrap_u16]; omega
          have w2 : IntKind.u16.wrap ((d2 : Int) + 1) = (d2 : Int) + 1 := by rw [IntKind.wrap_u16]; omega
          have w3 : IntKind.u16.wrap ((d3 : Int) + 1) = (d3 : Int) + 1 := by rw [IntKind.wrap_u16]; omega
          have w4 : IntKind.u16.wrap ((d4 : Int) + 1) = (d4 : Int) + 1 := by rw [IntKind.wrap_u16]; omega
          have w0 : (w : Int) ≤ 65535 := by omega
          have v1 : bits .and .u16 (w : Int) 15 = (d1 : Int) := by rw [and15 w hw6, hd1]
          have v2 : bits .and .u16 ((w : Int) / 16) 15 = (d2 : Int) := by rw [show (w : Int) / 16 = ((w / 16 : Nat) : Int) from by omega, and15 _ (by omega), hd2]
          have v3 : bits .and .u16 ((w : Int) / 256) 15 = (d3 : Int) := by rw [show (w : Int) / 256 = ((w / 256 : Nat) : Int) from by omega, and15 _ (by omega), hd3]
          have m1 : ((d1 : Int) + 1).toNat = d1 + 1 ∧ (0 : Int) ≤ (d1 : Int) + 1 ∧ (d1 : Int) + 1 ≤ 16 ∧ (d1 : Int) ≤ (d1 : Int) + 1 := by omega
          have m2 : ((d2 : Int) + 1).toNat = d2 + 1 ∧ (0 : Int) ≤ (d2 : Int) + 1 ∧ (d2 : Int) + 1 ≤ 16 ∧ (d2 : Int) ≤ (d2 : Int) + 1 := by omega
          have m3 : ((d3 : Int) + 1).toNat = d3 + 1 ∧ (0 : Int) ≤ (d3 : Int) + 1 ∧ (d3 : Int) + 1 ≤ 16 ∧ (d3 : Int) ≤ (d3 : Int) + 1 := by omega
          have m4 : ((d4 : Int) + 1).toNat = d4 + 1 ∧ (0 : Int) ≤ (d4 : Int) + 1 ∧ (d4 : Int) + 1 ≤ 16 ∧ (d4 : Int) ≤ (d4 : Int) + 1 := by omega
          obtain ⟨m11, m12, m13, m14⟩ := m1
          obtain ⟨m21, m22, m23, m24⟩ := m2
          obtain ⟨m31, m32, m33, m34⟩ := m3
          obtain ⟨m41, m42, m43, m44⟩ := m4
          have ha := str_app [hexD d2] [hexD d1]
          have hlow : [hexD d2] ++ [hexD d1] = lowT w := by rw [hd2, hd1]; rfl
          rw [hlow] at ha
          have hb2 := str_app [80, 85, 83, 72, 49, 32, 48, 120] (lowT w)
          rw [show [80, 85, 83, 72, 49, 32, 48, 120] ++ lowT w = wantT false w from rfl, show str [80, 85, 83, 72, 49, 32, 48, 120] = { data := #[80, 85, 83, 72, 49, 32, 48, 120] } from rfl] at hb2
          have z1 : (str [hexD d1]).size = 1 := rfl
          have z2 : (str [hexD d2]).size = 1 := rfl
          have z3 : (str (lowT w)).size = 2 := rfl
          have z4 : ¬ 9223372036854775807 < (str [hexD d2]).size + (str [hexD d1]).size := by rw [z1, z2]; omega
          have z5 : ¬ 9223372036854775807 < 8 + (str (lowT w)).size := by rw [z3]; omega
          clear z1 z2 z3
          have HB := Lib.hid hb
          clear hb hw hw6 hgw hcw hg5 hd1 hd2 hd3 hd4 hlow
          generalize str [hexD d1] = t1 at *
          generalize str [hexD d2] = t2 at *
          generalize str [hexD d3] = t3 at *
          generalize str [hexD d4] = t4 at *
          generalize str (lowT w) = lo at *
          generalize str (wantT false w) = wn at *
          go_wp2_with fail
          go_quiet (fail)
          have hcell2 : (wr.drewN nq).cell? ⟨g, o + j, none⟩ = some (.int .u16 (w : Nat)) := hcell
          have k52 : (wr.drewN nq).cell? ⟨g3, j, none⟩ = some (.string wn) := k5
          have HB2 := Lib.hid (show Below V3.heap.size V3 (wr.drewN nq) from below_drewN HB.out nq)
          clear hcell k5
          generalize World.drewN wr nq = V9 at *
          clear m11 m12 m13 m14 m21 m22 m23 m24 m31 m32 m33 m34 m41 m42 m43 m44 v1 v2 v3 w1 w2 w3 w4
          go_wp2_with fail
          go_roundw
          case rel => exact ⟨j + 1, by omega, by go_num, HB2.out⟩
          case measure => simp [intOf]; omega
        · obtain rfl : j = i := by omega
          have HB := Lib.hid hb
          clear hb
          go_wp2_with fail
          go_ret
          exact ⟨rfl, H3.out.2.trans (HB.out.mono H3.out.2.size)⟩
end Go.Proofs.YtfcmcccfclaefaaDoor
