/- The law WarmPlays. -/
import Derived.Test.YtginibphicmmmaaJzq
namespace Go.Proofs.Ytginibphicmmmaa
open Go.RowKit Go.Maps Go.Shelf Mp
theorem le60 {i : Nat} (h : i < 60) : i + 1 ≤ 60 := h
theorem wrap60 {i : Nat} (h : i < 100000) : wrap64 ((i : Int) + 1) = (i : Int) + 1 := IntWalk.wrap64_in _ ⟨by omega, by omega⟩
set_option maxRecDepth 100000 in
set_option maxHeartbeats 16000000 in
theorem plays_c {pa : Option Addr} {cap : Nat} {ds : List Dd} {W : World} (hA : DeedsHere W pa cap ds) :
    Calls Try.prog 3 #[.slice pa ds.length cap] W fun e W' => e = .returned (.bool true) ∧ Below W.heap.size W W' := by
  obtain ⟨hd, hc, hn⟩ := hA
  clear hc hn
  obtain ⟨len, hlen⟩ : ∃ len, len = ds.length := ⟨_, rfl⟩
  rw [← hlen]
  have HH := Lib.hid (And.intro hd hlen)
  clear hd hlen
  go_enter Try.func3, Try.ntmps3
  go_wp2_with fail
  refine (exam_c _).mono ?_
  rintro e V0 ⟨rfl, h9⟩
  have CN := Lib.hid (St.new (W := W) (V := V0) (B := []) h9 (fun _ h => by cases h))
  unfold ptr at CN
  clear h9
  go_wp2_with fail
  refine CN.out.mono ?_
  rintro e V1 ⟨b, rfl, h9⟩
  have M1 := Tw.start h9
  clear CN h9
  go_upto_region 6 with fail
  obtain ⟨q, hq⟩ : ∃ q, q = V1.heap.size := ⟨_, rfl⟩
  rw [← hq] at M1 ⊢
  clear hq
  generalize World.alloc V1 _ = V2 at M1 ⊢
  have H1 := Lib.hid M1
  clear M1
  go_wp2_with fail
  go_loopw [6] (fun iv wr => ∃ i : Nat, i ≤ len ∧ i ≤ 60 ∧ iv = .int .i64 (i : Nat) ∧ ∃ L, Tw L L.reverse b q i [] W wr ∧ L.length ≤ i ∧ Told L) (fun iv _ => 60 - (intOf iv).toNat)
  case atStart => exact ⟨0, Nat.zero_le _, Nat.zero_le _, rfl, [], H1.out, Nat.le_refl _, fun _ h => by cases h⟩
  case round =>
    obtain ⟨i, hi, hi60, rfl, L, h, hL, hT⟩ := hrel
    by_cases hlt : i < len
    · by_cases hl2 : i < 60
      · obtain ⟨d, hd⟩ : ∃ d, ds[i]? = some d := ⟨_, List.getElem?_eq_getElem (by rw [← HH.out.2]; exact hlt)⟩
        obtain ⟨g, og, tv, hpa, hg, hcell, hok⟩ := HH.out.1 i d hd
        subst hpa
        have hB := h.below
        have hcw := fun j hj => (World.cell?_of_block (hB.block g hg)).trans (hcell j hj)
        have w0 : wr.cell? ⟨g, og + i * 7, none⟩ = some (.int .u8 (d.kind : Nat)) := hcw 0 (by omega)
        have w1 : wr.cell? ⟨g, og + i * 7 + 1, none⟩ = some (.int .u8 (d.a : Nat)) := hcw 1 (by omega)
        have w2 : wr.cell? ⟨g, og + i * 7 + 2, none⟩ = some (.int .u8 (d.k : Nat)) := hcw 2 (by omega)
        have w3 : wr.cell? ⟨g, og + i * 7 + 3, none⟩ = some (.int .i64 d.n) := hcw 3 (by omega)
        have w4 : wr.cell? ⟨g, og + i * 7 + 4, none⟩ = some (.string (str d.l.addr)) := hcw 4 (by omega)
        have w5 : wr.cell? ⟨g, og + i * 7 + 5, none⟩ = some tv := hcw 5 (by omega)
        have w6 : wr.cell? ⟨g, og + i * 7 + 6, none⟩ = some (.string (str d.l.data)) := hcw 6 (by omega)
        have hli : (i : Int) < (len : Int) := int_lt' hlt
        have hl60 : (i : Int) < 60 := int_lt' hl2
        have hwi := wrap60 (i := i) (by omega)
        have CD := Lib.hid (does_c h (by omega) hL hok.kind hok.a hok.k hok.log.words (Nat.le_trans hok.log.addr (by decide)) (Nat.le_trans hok.log.data (by decide)) (Nat.le_trans hok.log.tops (by decide)))
        have HX := Lib.hid (And.intro hlt (And.intro hl2 (And.intro hT hok.log.tops)))
        clear h hL hT hok hcell hcw hd hg hB hlt hl2 hi hi60 H1
        unfold ptr dvC at CD
        go_wp2_with fail
        refine CD.out.mono ?_
        rintro e V3 ⟨rfl, M, h3, hM, hIn⟩
        have HT := Lib.hid (HX.out.2.2.1.on hIn HX.out.2.2.2)
        have hM6 : M.length ≤ 60 := by have := HX.out.2.1; omega
        have HM6 := Lib.hid hM6
        have hMr : M.reverse.length < 900000 := by rw [List.length_reverse]; omega
        have HMr := Lib.hid hMr
        have hn6 : i + 1 < 1000000000 := by have := HX.out.2.1; omega
        have HN6 := Lib.hid hn6
        have C2 := Lib.hid (h3.sleaving hn6)
        clear CD hIn h3 hn6 hMr hM6 w0 w1 w2 w3 w4 w5 w6
        unfold ptr at C2
        go_wp2_with fail
        refine C2.out.mono ?_
        rintro e V4 ⟨vp, rfl, hp, h4⟩
        have C3 := h4.xleaving HMr.out
        rw [List.reverse_reverse] at C3
        have H3 := Lib.hid hp
        have C3 := Lib.hid C3
        clear C2 hp h4
        unfold ptr at C3
        go_wp2_with fail
        refine C3.out.mono ?_
        rintro e V5 ⟨vq, rfl, hq, h5⟩
        have HP := Lib.hid (H3.out.on hq.below)
        have HQ := Lib.hid hq
        have C4 := Lib.hid (h5.slogs HN6.out (fun l hl => Nat.le_trans (HT.out l hl) (by decide)))
        clear C3 H3 hq h5
        unfold ptr at C4
        go_wp2_with fail
        refine C4.out.mono ?_
        rintro e V6 ⟨p6, c6, rfl, l6, h6, b6⟩
        have C5 := h6.xlogs HMr.out
        rw [List.reverse_reverse] at C5
        have HP2 := Lib.hid (HP.out.on b6)
        have HQ2 := Lib.hid (HQ.out.on b6)
        have HL6 := Lib.hid l6
        have C5 := Lib.hid C5
        clear C4 HP HQ l6 h6 b6
        unfold ptr at C5
        go_wp2_with fail
        refine C5.out.mono ?_
        rintro e V7 ⟨p7, c7, rfl, l7, h7, b7⟩
        have C6 := alogs_c (HL6.out.below b7) l7 (Nat.lt_of_le_of_lt (Nat.le_trans (logs_few M) HM6.out) (by decide)) (fun l hl => by have := HT.out l hl; omega)
        rw [decide_eq_true rfl] at C6
        have HP := Lib.hid (HP2.out.on b7)
        have HQ := Lib.hid (HQ2.out.on b7)
        have H7 := Lib.hid h7
        have C6 := Lib.hid C6
        clear C5 HP2 HQ2 HL6 l7 h7 b7
        go_wp2_with fail
        refine C6.out.mono ?_
        rintro e V8 ⟨rfl, b8⟩
        have h8 := H7.out.call b8
        have C7 := Lib.hid h8.stotal
        have HP8 := Lib.hid (HP.out.on b8)
        have HQ8 := Lib.hid (HQ.out.on b8)
        have H8 := Lib.hid h8
        clear C6 HP HQ H7 h8 b8
        unfold ptr at C7
        go_wp2_with fail
        refine C7.out.mono ?_
        rintro e V9 ⟨rfl, rfl⟩
        have C8 := H8.out.xtotal2 HMr.out
        rw [List.reverse_reverse] at C8
        have C8 := Lib.hid C8
        clear C7
        unfold ptr at C8
        obtain ⟨tt, htt⟩ : ∃ tt, tt = tot M := ⟨_, rfl⟩
        rw [← htt] at C8 ⊢
        clear htt
        go_wp2_with fail
        refine C8.out.mono ?_
        rintro e V10 ⟨rfl, h10, b10⟩
        have HP := Lib.hid (HP8.out.on b10)
        have HQ := Lib.hid (HQ8.out.on b10)
        have H10 := Lib.hid h10
        have C9 := Lib.hid h10.smark
        have C10 := h10.xmark
        rw [List.length_reverse] at C10
        have C10 := Lib.hid C10
        clear C8 HP8 HQ8 H8 h10 b10
        obtain ⟨mm, hmm⟩ : ∃ mm, mm = M.length := ⟨_, rfl⟩
        rw [← hmm] at C9 C10
        clear hmm
        unfold ptr at C9 C10
        go_wp2_with fail
        refine C9.out.mono ?_
        rintro e V11 ⟨rfl, rfl⟩
        go_wp2_with fail
        refine C10.out.mono ?_
        rintro e V11 ⟨rfl, rfl⟩
        clear C9 C10
        obtain ⟨a1, c1, e1⟩ := own_any HP.out.row
        obtain ⟨a2, c2, e2⟩ := own_any HQ.out.row
        obtain ⟨m, hm⟩ : ∃ m, m = (leavP M).length := ⟨_, rfl⟩
        rw [← hm] at e1 e2
        have hm6 : m ≤ 60 := by rw [hm]; exact Nat.le_trans (leav_le M) HM6.out
        have HM := Lib.hid (And.intro hm hm6)
        subst e1 e2
        clear hm hm6
        have hwi := wrap60 (i := i) (by have := HX.out.2.1; omega)
        go_wp2_with fail
        go_loopw [11] (fun kv wr => ∃ k : Nat, k ≤ m ∧ kv = .int .i64 (k : Nat) ∧ Below V11.heap.size V11 wr) (fun kv _ => m - (intOf kv).toNat)
        case atStart => exact ⟨0, Nat.zero_le _, rfl, Below.refl _ _⟩
        case round =>
          obtain ⟨k, hk, rfl, hb⟩ := hrel
          by_cases hkm : k < m
          · obtain ⟨t, ht⟩ : ∃ t, (leavP M)[k]? = some t := ⟨_, List.getElem?_eq_getElem (by rw [← HM.out.1]; exact hkm)⟩
            obtain ⟨g1, d1, e1, x1⟩ := txt_at (HP.out.on hb).row ht
            obtain ⟨g2, d2, e2, x2⟩ := txt_at (HQ.out.on hb).row ht
            injection e1 with e1 z1 z2
            injection e2 with e2 z3 z4
            clear z1 z2 z3 z4
            subst e1 e2
            have hs1 := eql_str t t
            rw [decide_eq_true rfl] at hs1
            have hkl : (k : Int) < (m : Int) := int_lt' hkm
            have hwk : wrap64 ((k : Int) + 1) = (k : Int) + 1 := wrap60 (by have := HM.out.2; omega)
            have HY := Lib.hid (And.intro hb (And.intro hkm ht))
            clear hb hkm ht hk
            go_wp2_with fail
            go_quiet (fail)
            go_wp2_with fail
            go_roundw
            case rel => exact ⟨k + 1, HY.out.2.1, by go_num, HY.out.1.trans ((bel_drewN _ _).mono HY.out.1.size)⟩
            case measure => first | exact meas2 HY.out.2.1 | (rw [hwk]; exact meas2 HY.out.2.1)
          · obtain rfl : k = m := Nat.le_antisymm hk (Nat.le_of_not_lt hkm)
            have hkl : ¬ ((k : Int) < (k : Int)) := Int.lt_irrefl _
            have HY := Lib.hid hb
            clear hb hkm hk
            go_wp2_with fail
            go_roundw
            case rel => exact ⟨i + 1, HX.out.1, HX.out.2.1, by go_num, M, H10.out.call HY.out, by have := HX.out.2.1; omega, HT.out⟩
            case measure => first | exact meas2 HX.out.2.1 | (rw [hwi]; exact meas2 HX.out.2.1)
      · obtain rfl : i = 60 := Nat.le_antisymm hi60 (Nat.le_of_not_lt hl2)
        have hli : ((60 : Nat) : Int) < (len : Int) := int_lt' hlt
        have HE := Lib.hid h.below
        clear h hL hT hi hlt hl2 hi60 H1
        go_wp2_with fail
        go_ret
        exact ⟨rfl, HE.out⟩
    · obtain rfl : i = len := Nat.le_antisymm hi (Nat.le_of_not_lt hlt)
      have hli : ¬ ((i : Int) < (i : Int)) := Int.lt_irrefl _
      have HE := Lib.hid h.below
      clear h hL hT hi hlt hi60 H1
      go_wp2_with fail
      go_ret
      exact ⟨rfl, HE.out⟩
end Go.Proofs.Ytginibphicmmmaa
