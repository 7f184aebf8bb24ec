/- RecordFrames. -/
import Derived.Test.YtoiooohdenfpmaaQz
import Derived.Test.YtoiooohdenfpmaaQy
namespace Go.Proofs.Ytoiooohdenfpmaa
open Go.RowKit

/-- The reference's frame of any text. -/
def gfr (t : Nm) : Nm := if t.length ≤ 65536 then fr t else []
def gfrs : List Nm → Nm
  | [] => []
  | t :: l => gfr t ++ gfrs l
theorem gfrs_app (l m : List Nm) : gfrs (l ++ m) = gfrs l ++ gfrs m := by
  induction l with
  | nil => rfl
  | cons t l ih => simp [gfrs, ih]
theorem gfr_len (t : Nm) : (gfr t).length ≤ 65544 := by
  unfold gfr
  split
  · rw [fr_len]; omega
  · simp
theorem gfrs_len (l : List Nm) : (gfrs l).length ≤ 65544 * l.length := by
  induction l with
  | nil => simp [gfrs]
  | cons t l ih => have := gfr_len t; simp only [gfrs, List.length_append, List.length_cons]; omega
/-- Both answer alike. -/
theorem both_frame (s : Nm) : ∃ ok : Bool, (∀ W, Calls Try.prog 10 #[.string (str s)] W fun e W' => e = .returned (.tuple #[.string (str (gfr s)), .bool ok]) ∧ Below W.heap.size W W') ∧
    (∀ W, Calls Try.prog 11 #[.string (str s)] W fun e W' => e = .returned (.tuple #[.string (str (gfr s)), .bool ok]) ∧ Below W.heap.size W W') := by
  unfold gfr
  by_cases h : s.length ≤ 65536
  · refine ⟨true, fun W => ?_, fun W => ?_⟩
    · rw [if_pos h]; exact frame_c s h W
    · rw [if_pos h]; exact rframe_c s h W
  · refine ⟨false, fun W => ?_, fun W => ?_⟩
    · rw [if_neg h]; exact (frame_long (str s) (by rw [str_size]; omega) W).mono fun e W' ⟨h1, h2⟩ => ⟨h1, h2 ▸ Below.refl _ _⟩
    · rw [if_neg h]; exact (rframe_long (str s) (by rw [str_size]; omega) W).mono fun e W' ⟨h1, h2⟩ => ⟨h1, h2 ▸ Below.refl _ _⟩
set_option maxRecDepth 100000 in
set_option maxHeartbeats 4000000 in
theorem framesOther_c {a : Option Addr} {c n : Nat} (s : Nm) (hs : s.length ≤ 1048576) (at_ : Int) (by_ : Nat) (W : World) :
    Calls Try.prog 3 #[.string (str s), .bool false, .slice a n c, .int .i64 at_, .int .u8 (by_ : Nat)] W fun e W' => e = .returned (.bool true) ∧ Below W.heap.size W W' := by
  obtain ⟨ok, f1, f2⟩ := both_frame s
  have HF := Lib.hid (And.intro f1 f2)
  clear f1 f2
  have hzl : s.length ≤ 2000000 := by omega
  clear hs
  have hqq : ((str (gfr s)).toList == (str (gfr s)).toList) = true := by simp
  generalize str (gfr s) = gs at *
  go_enter Try.func3, Try.ntmps3
  go_wp2_with fail
  refine (exam_c W).mono ?_
  rintro e W1 ⟨rfl, hb⟩
  have B1 := Lib.hid hb
  clear hb
  go_wp2_with fail
  refine (HF.out.1 _).mono ?_
  rintro e W2 ⟨rfl, hb⟩
  have B2 := Lib.hid (B1.out.trans (hb.mono B1.out.size))
  clear hb B1
  go_wp2_with fail
  refine (HF.out.2 _).mono ?_
  rintro e W3 ⟨rfl, hb⟩
  have HBW := Lib.hid (B2.out.trans (hb.mono B2.out.size))
  clear hb B2 HF
  have HsL := Lib.hid hzl
  clear hzl
  go_wp2_with fail
  refine (frames_c s (by have := HsL.out; omega) _).mono ?_
  rintro e w3 ⟨fs3, r3, v3, rfl, h1, h2, h3⟩
  obtain ⟨a3, c3, rfl⟩ := h2.form
  have H3 := Lib.hid (And.intro h1 (And.intro h2 (HBW.out.trans (h3.mono HBW.out.size))))
  clear h1 h2 h3 HBW
  go_wp2_with fail
  refine (rframes_c s (by have := HsL.out; omega) _).mono ?_
  rintro e w4 ⟨fs4, r4, v4, rfl, h1, h2, h3⟩
  obtain ⟨e4, _⟩ := h1.inj H3.out.1
  subst e4
  obtain ⟨a4, c4, rfl⟩ := h2.form
  have hfl4 := frs_len fs4
  have hln := h1.len
  have hsm := same_c (H3.out.2.1.keep h3) h2 (by have := HsL.out; omega)
  rw [show decide (fs4 = fs4) = true from decide_eq_true rfl] at hsm
  have HB4 := Lib.hid (H3.out.2.2.trans (h3.mono H3.out.2.2.size))
  clear h1 h2 h3 H3 hfl4 hln
  go_wp2_with fail
  refine hsm.mono ?_
  rintro e w5 ⟨rfl, h1⟩
  have HB5 := Lib.hid (HB4.out.trans (h1.mono HB4.out.size))
  clear h1 hsm
  go_wp2_with fail
  go_ret
  exact ⟨rfl, HB5.out⟩
set_option maxRecDepth 100000 in
set_option maxHeartbeats 4000000 in
theorem framesOwn_c {a : Option Addr} {c : Nat} {l : List Nm} (s : Nm) (hs : s.length ≤ 1048576) (at_ : Int) (hat : -9223372036854775808 ≤ at_ ∧ at_ ≤ 9223372036854775807) (by_ : Nat) (hby : by_ < 256) {W : World} (hT : Txts W a c l) (hlen : l.length ≤ maxLen) :
    Calls Try.prog 3 #[.string (str s), .bool true, .slice a l.length c, .int .i64 at_, .int .u8 (by_ : Nat)] W fun e W' => e = .returned (.bool true) ∧ Below W.heap.size W W' := by
  obtain ⟨ok, f1, f2⟩ := both_frame s
  have HF := Lib.hid (And.intro f1 f2)
  clear f1 f2
  have HX := Lib.hid (And.intro hT hlen)
  obtain ⟨n, hn⟩ : ∃ n, n = l.length := ⟨_, rfl⟩
  have HN := Lib.hid (And.intro hn hs)
  rw [← hn]
  have hnm : (n : Int) ≤ 9223372036854775807 := by rw [hn]; unfold maxLen at hlen; omega
  have hssz := str_size s
  have hnc : (n : Int) ≤ (c : Int) := by have := hT.1; omega
  clear hT hlen hn hs
  have hqq : ((str (gfr s)).toList == (str (gfr s)).toList) = true := by simp
  generalize str (gfr s) = gs at *
  go_enter Try.func3, Try.ntmps3
  go_wp2_with fail
  refine (exam_c W).mono ?_
  rintro e W1 ⟨rfl, hb⟩
  have B1 := Lib.hid hb
  clear hb
  go_wp2_with fail
  refine (HF.out.1 _).mono ?_
  rintro e W2 ⟨rfl, hb⟩
  have B2 := Lib.hid (B1.out.trans (hb.mono B1.out.size))
  clear hb B1
  go_wp2_with fail
  refine (HF.out.2 _).mono ?_
  rintro e W3 ⟨rfl, hb⟩
  have B3 := Lib.hid (B2.out.trans (hb.mono B2.out.size))
  clear hb B2 HF
  go_wp2_with fail
  go_loopw [16, 17] (fun va vi wr => ∃ k : Nat, vi = .int .i64 k ∧ k ≤ 10 ∧ k ≤ n ∧ va = .string (str (gfrs (l.take k))) ∧ Below W.heap.size W wr) (fun _ i _ => 10 - (intOf i).toNat)
  case atStart => exact ⟨0, rfl, by omega, by omega, rfl, B3.out⟩
  case round =>
    obtain ⟨k, rfl, hk10, hkn, rfl, hb⟩ := hrel
    have hgz := str_size (gfrs (l.take k))
    have hgl := gfrs_len (l.take k)
    rw [List.length_take] at hgl
    by_cases hlt : k < n ∧ k < 10
    · obtain ⟨t, ht⟩ : ∃ t, l[k]? = some t := ⟨_, List.getElem?_eq_getElem (by have := HN.out.1; omega)⟩
      obtain ⟨hlc, hgo⟩ := HX.out.1
      rcases hgo with hnil | ⟨g, o, rfl, hg, hcell⟩
      · rw [hnil] at ht; cases ht
      have d0 : wr.cell? ⟨g, o + k, none⟩ = some (.string (str t)) := (World.cell?_of_block (hb.block g hg)).trans (hcell k t ht)
      obtain ⟨okt, _, ft⟩ := both_frame t
      have HFT := Lib.hid (ft wr)
      have HE := Lib.hid (show str (gfrs (l.take k)) ++ str (gfr t) = str (gfrs (l.take (k + 1))) by
        rw [str_app, List.take_add_one, ht, Option.toList, gfrs_app]; simp [gfrs])
      have hgt := str_size (gfr t)
      have hgtl := gfr_len t
      have hki : (k : Int) < (n : Int) := by omega
      have hk10i : (k : Int) < 10 := by omega
      have hw : IntKind.i64.wrap ((k : Int) + 1) = (k : Int) + 1 := IntWalk.i64_in _ (by omega)
      have HB := Lib.hid hb
      have hcat := HE.out
      have hsum : ((str (gfrs (l.take k))).size : Int) + ((str (gfr t)).size : Int) ≤ 1000000 := by omega
      clear hb ft hcell ht hlc hg B3 hgl hgz hgt hgtl
      generalize hns : str (gfrs (l.take (k + 1))) = ns at *
      have HNS := Lib.hid hns
      clear hns
      generalize str (gfrs (l.take k)) = al at *
      generalize str (gfr t) = gt at *
      go_wp2_with fail
      refine HFT.out.mono ?_
      rintro e w2 ⟨rfl, h1⟩
      have HB2 := Lib.hid (HB.out.trans (h1.mono HB.out.size))
      clear h1 HFT HB
      go_wp2_with fail
      go_roundw
      case rel => exact ⟨k + 1, by go_num, by omega, by omega, by rw [HNS.out], HB2.out⟩
      case measure => simp [intOf]; omega
    · have hgk : (gfrs (l.take k)).length ≤ 655440 := by omega
      obtain ⟨X, hX⟩ : ∃ X, X = gfrs (l.take k) ++ s := ⟨_, rfl⟩
      have hcat : str (gfrs (l.take k)) ++ str s = str X := by rw [hX, str_app]
      have hXl : X.length ≤ 1704016 := by rw [hX, List.length_append]; have := HN.out.2; omega
      obtain ⟨cap, W5, hcv, hb1, hb2, hb3⟩ := bytes_of (str X) wr
      have hsz := str_size X
      rw [hsz] at hb1 hcv
      obtain ⟨L, hL⟩ : ∃ L, L = X.length := ⟨_, rfl⟩
      rw [← hL] at hb1 hcv hsz hXl
      have hLb : L ≤ 2000000 := by omega
      have HY := Lib.hid (And.intro hb1 (And.intro (hb.trans (hb2.mono hb.size)) hb.size))
      generalize hal : str X = al at *
      have HAL := Lib.hid (And.intro hal hL)
      generalize wr.heap.size = gb at *
      have hsum : ((str (gfrs (l.take k))).size : Int) + ((str s).size : Int) ≤ 2000000 := by have := HN.out.2; omega
      clear hb1 hb2 hb3 hb hX hL hal hXl B3 hgl hgz hgk
      generalize str (gfrs (l.take k)) = ga at *
      have hcond : ¬ (k : Int) < (n : Int) ∨ ((k : Int) < (n : Int) ∧ ¬ (k : Int) < 10) := by omega
      clear hlt hkn
      by_cases hki : (k : Int) < (n : Int)
      · have hk10i : ¬ (k : Int) < 10 := by omega
        clear hcond
        by_cases hL0 : L = 0
        · have hzl : X.length ≤ 2000000 := by rw [← HAL.out.2]; exact hLb
          subst hL0
          have hcv0 := HY.out.1.conv (byteAt_lt al) cap
          rw [show txt 0 (byteAt al) = al by rw [← hsz]; exact txt_byteAt al, ← HAL.out.1] at hcv0
          have HBW := Lib.hid HY.out.2.1
          by_cases hn0 : at_ < 0
          · have hA1 : IntKind.i64.wrap (at_ + 1) = at_ + 1 := IntWalk.i64_in _ (by omega)
            have HXL := Lib.hid hzl
            clear hzl
            go_wp2_with fail
            refine (frames_c X (by have := HXL.out; omega) _).mono ?_
            rintro e w3 ⟨fs3, r3, v3, rfl, h1, h2, h3⟩
            obtain ⟨a3, c3, rfl⟩ := h2.form
            have H3 := Lib.hid (And.intro h1 (And.intro h2 (HBW.out.trans (h3.mono HBW.out.size))))
            clear h1 h2 h3 HBW
            go_wp2_with fail
            refine (rframes_c X (by have := HXL.out; omega) _).mono ?_
            rintro e w4 ⟨fs4, r4, v4, rfl, h1, h2, h3⟩
            obtain ⟨e4, _⟩ := h1.inj H3.out.1
            subst e4
            obtain ⟨a4, c4, rfl⟩ := h2.form
            have hfl4 := frs_len fs4
            have hln := h1.len
            have hsm := same_c (H3.out.2.1.keep h3) h2 (by have := HXL.out; omega)
            rw [show decide (fs4 = fs4) = true from decide_eq_true rfl] at hsm
            have HB4 := Lib.hid (H3.out.2.2.trans (h3.mono H3.out.2.2.size))
            clear h1 h2 h3 H3 hfl4 hln
            go_wp2_with fail
            refine hsm.mono ?_
            rintro e w5 ⟨rfl, h1⟩
            have HB5 := Lib.hid (HB4.out.trans (h1.mono HB4.out.size))
            clear h1 hsm
            go_wp2_with fail
            go_ret
            exact ⟨rfl, HB5.out⟩
          · skip
            have HXL := Lib.hid hzl
            clear hzl
            go_wp2_with fail
            refine (frames_c X (by have := HXL.out; omega) _).mono ?_
            rintro e w3 ⟨fs3, r3, v3, rfl, h1, h2, h3⟩
            obtain ⟨a3, c3, rfl⟩ := h2.form
            have H3 := Lib.hid (And.intro h1 (And.intro h2 (HBW.out.trans (h3.mono HBW.out.size))))
            clear h1 h2 h3 HBW
            go_wp2_with fail
            refine (rframes_c X (by have := HXL.out; omega) _).mono ?_
            rintro e w4 ⟨fs4, r4, v4, rfl, h1, h2, h3⟩
            obtain ⟨e4, _⟩ := h1.inj H3.out.1
            subst e4
            obtain ⟨a4, c4, rfl⟩ := h2.form
            have hfl4 := frs_len fs4
            have hln := h1.len
            have hsm := same_c (H3.out.2.1.keep h3) h2 (by have := HXL.out; omega)
            rw [show decide (fs4 = fs4) = true from decide_eq_true rfl] at hsm
            have HB4 := Lib.hid (H3.out.2.2.trans (h3.mono H3.out.2.2.size))
            clear h1 h2 h3 H3 hfl4 hln
            go_wp2_with fail
            refine hsm.mono ?_
            rintro e w5 ⟨rfl, h1⟩
            have HB5 := Lib.hid (HB4.out.trans (h1.mono HB4.out.size))
            clear h1 hsm
            go_wp2_with fail
            go_ret
            exact ⟨rfl, HB5.out⟩
        · by_cases hn0 : at_ < 0
          · skip
            obtain ⟨A, hA⟩ : ∃ A : Nat, (A : Int) = -(at_ + 1) := ⟨(-(at_ + 1)).toNat, by omega⟩
            have hA1 : IntKind.i64.wrap (at_ + 1) = at_ + 1 := IntWalk.i64_in _ (by omega)
            have hA2 : IntKind.i64.wrap (-(at_ + 1)) = (A : Int) := by rw [IntWalk.i64_in _ (by omega)]; omega
            have hA3 : wrap64 (at_ + 1) = at_ + 1 := IntWalk.wrap64_in _ (by omega)
            have hA4 : wrap64 (-(at_ + 1)) = (A : Int) := by rw [IntWalk.wrap64_in _ (by omega)]; omega
            clear hA
            obtain ⟨M, hMdef⟩ : ∃ M, M = A % L := ⟨_, rfl⟩
            have hML : M < L := by rw [hMdef]; exact Nat.mod_lt _ (by omega)
            have hLi : (0 : Int) < (L : Int) := by omega
            have hLn : ¬ L = 0 := by omega
            have hmod : (A : Int).tmod (L : Int) = (M : Int) := by rw [Int.tmod_eq_emod_of_nonneg (by omega)]; omega
            have hmod2 : (A : Int) % (L : Int) = (M : Int) := by omega
            clear hMdef
            have d0 : W5.drew.cell? ⟨gb, M, none⟩ = some (.int .u8 (byteAt al M : Nat)) := (HY.out.1 M hML).1
            have e0 : W5.drew.frozen? ⟨gb, M, none⟩ = false := (HY.out.1 M hML).2
            have hMi : (M : Int) < (L : Int) := by omega
            have hM0 : (0 : Int) ≤ (M : Int) := by omega
            have hMw : IntKind.i64.wrap (M : Int) = (M : Int) := IntWalk.i64_in _ (by omega)
            have hxor := u8_xor_nat (byteAt al M) by_ (byteAt_lt _ _) hby
            have hset : Bt gb L (upd (byteAt al) M (byteAt al M ^^^ by_)) ((W5.setCell ⟨gb, M, none⟩ (.int .u8 (byteAt al M ^^^ by_ : Nat))).drew) := HY.out.1.set hML (byteAt al M ^^^ by_)
            have hcv2 := hset.conv (fun j => by unfold upd; split; (· exact Nat.xor_lt_two_pow (n := 8) (byteAt_lt _ _) hby); (· exact byteAt_lt _ _)) cap
            rw [← HAL.out.1, HAL.out.2, txt_turn hby (by rw [← HAL.out.2]; exact hML), HAL.out.2.symm, HAL.out.1] at hcv2
            have HBW := Lib.hid (show Below W.heap.size W ((W5.setCell ⟨gb, M, none⟩ (.int .u8 (byteAt al M ^^^ by_ : Nat))).drew) from (HY.out.2.1.setCell (show W.heap.size ≤ (⟨gb, M, none⟩ : Addr).block from HY.out.2.2) _).drew)
            have hzl : (turnB X M (UInt8.ofNat by_)).length ≤ 2000000 := by rw [turnB_len, ← HAL.out.2]; exact hLb
            generalize byteAt al M ^^^ by_ = nv at *
            generalize turnB X M (UInt8.ofNat by_) = zz at *
            go_wp2_with fail
            go_still_tail 15, (by kernel_rfl)
            change wpList _ _ _ _ _ W5.drew
            clear hxor hset
            have HzzL := Lib.hid hzl
            clear hzl
            go_wp2_with fail
            refine (frames_c zz (by have := HzzL.out; omega) _).mono ?_
            rintro e w3 ⟨fs3, r3, v3, rfl, h1, h2, h3⟩
            obtain ⟨a3, c3, rfl⟩ := h2.form
            have H3 := Lib.hid (And.intro h1 (And.intro h2 (HBW.out.trans (h3.mono HBW.out.size))))
            clear h1 h2 h3 HBW
            go_wp2_with fail
            refine (rframes_c zz (by have := HzzL.out; omega) _).mono ?_
            rintro e w4 ⟨fs4, r4, v4, rfl, h1, h2, h3⟩
            obtain ⟨e4, _⟩ := h1.inj H3.out.1
            subst e4
            obtain ⟨a4, c4, rfl⟩ := h2.form
            have hfl4 := frs_len fs4
            have hln := h1.len
            have hsm := same_c (H3.out.2.1.keep h3) h2 (by have := HzzL.out; omega)
            rw [show decide (fs4 = fs4) = true from decide_eq_true rfl] at hsm
            have HB4 := Lib.hid (H3.out.2.2.trans (h3.mono H3.out.2.2.size))
            clear h1 h2 h3 H3 hfl4 hln
            go_wp2_with fail
            refine hsm.mono ?_
            rintro e w5 ⟨rfl, h1⟩
            have HB5 := Lib.hid (HB4.out.trans (h1.mono HB4.out.size))
            clear h1 hsm
            go_wp2_with fail
            go_ret
            exact ⟨rfl, HB5.out⟩
          · skip
            obtain ⟨A, rfl⟩ : ∃ A : Nat, at_ = (A : Int) := ⟨at_.toNat, by omega⟩
            obtain ⟨M, hMdef⟩ : ∃ M, M = A % L := ⟨_, rfl⟩
            have hML : M < L := by rw [hMdef]; exact Nat.mod_lt _ (by omega)
            have hLi : (0 : Int) < (L : Int) := by omega
            have hLn : ¬ L = 0 := by omega
            have hmod : (A : Int).tmod (L : Int) = (M : Int) := by rw [Int.tmod_eq_emod_of_nonneg (by omega)]; omega
            have hmod2 : (A : Int) % (L : Int) = (M : Int) := by omega
            clear hMdef
            have d0 : W5.drew.cell? ⟨gb, M, none⟩ = some (.int .u8 (byteAt al M : Nat)) := (HY.out.1 M hML).1
            have e0 : W5.drew.frozen? ⟨gb, M, none⟩ = false := (HY.out.1 M hML).2
            have hMi : (M : Int) < (L : Int) := by omega
            have hM0 : (0 : Int) ≤ (M : Int) := by omega
            have hMw : IntKind.i64.wrap (M : Int) = (M : Int) := IntWalk.i64_in _ (by omega)
            have hxor := u8_xor_nat (byteAt al M) by_ (byteAt_lt _ _) hby
            have hset : Bt gb L (upd (byteAt al) M (byteAt al M ^^^ by_)) ((W5.setCell ⟨gb, M, none⟩ (.int .u8 (byteAt al M ^^^ by_ : Nat))).drew) := HY.out.1.set hML (byteAt al M ^^^ by_)
            have hcv2 := hset.conv (fun j => by unfold upd; split; (· exact Nat.xor_lt_two_pow (n := 8) (byteAt_lt _ _) hby); (· exact byteAt_lt _ _)) cap
            rw [← HAL.out.1, HAL.out.2, txt_turn hby (by rw [← HAL.out.2]; exact hML), HAL.out.2.symm, HAL.out.1] at hcv2
            have HBW := Lib.hid (show Below W.heap.size W ((W5.setCell ⟨gb, M, none⟩ (.int .u8 (byteAt al M ^^^ by_ : Nat))).drew) from (HY.out.2.1.setCell (show W.heap.size ≤ (⟨gb, M, none⟩ : Addr).block from HY.out.2.2) _).drew)
            have hzl : (turnB X M (UInt8.ofNat by_)).length ≤ 2000000 := by rw [turnB_len, ← HAL.out.2]; exact hLb
            generalize byteAt al M ^^^ by_ = nv at *
            generalize turnB X M (UInt8.ofNat by_) = zz at *
            go_wp2_with fail
            go_still_tail 15, (by kernel_rfl)
            change wpList _ _ _ _ _ W5.drew
            clear hxor hset
            have HzzL := Lib.hid hzl
            clear hzl
            go_wp2_with fail
            refine (frames_c zz (by have := HzzL.out; omega) _).mono ?_
            rintro e w3 ⟨fs3, r3, v3, rfl, h1, h2, h3⟩
            obtain ⟨a3, c3, rfl⟩ := h2.form
            have H3 := Lib.hid (And.intro h1 (And.intro h2 (HBW.out.trans (h3.mono HBW.out.size))))
            clear h1 h2 h3 HBW
            go_wp2_with fail
            refine (rframes_c zz (by have := HzzL.out; omega) _).mono ?_
            rintro e w4 ⟨fs4, r4, v4, rfl, h1, h2, h3⟩
            obtain ⟨e4, _⟩ := h1.inj H3.out.1
            subst e4
            obtain ⟨a4, c4, rfl⟩ := h2.form
            have hfl4 := frs_len fs4
            have hln := h1.len
            have hsm := same_c (H3.out.2.1.keep h3) h2 (by have := HzzL.out; omega)
            rw [show decide (fs4 = fs4) = true from decide_eq_true rfl] at hsm
            have HB4 := Lib.hid (H3.out.2.2.trans (h3.mono H3.out.2.2.size))
            clear h1 h2 h3 H3 hfl4 hln
            go_wp2_with fail
            refine hsm.mono ?_
            rintro e w5 ⟨rfl, h1⟩
            have HB5 := Lib.hid (HB4.out.trans (h1.mono HB4.out.size))
            clear h1 hsm
            go_wp2_with fail
            go_ret
            exact ⟨rfl, HB5.out⟩
      · clear hcond
        by_cases hL0 : L = 0
        · have hzl : X.length ≤ 2000000 := by rw [← HAL.out.2]; exact hLb
          subst hL0
          have hcv0 := HY.out.1.conv (byteAt_lt al) cap
          rw [show txt 0 (byteAt al) = al by rw [← hsz]; exact txt_byteAt al, ← HAL.out.1] at hcv0
          have HBW := Lib.hid HY.out.2.1
          by_cases hn0 : at_ < 0
          · have hA1 : IntKind.i64.wrap (at_ + 1) = at_ + 1 := IntWalk.i64_in _ (by omega)
            have HXL := Lib.hid hzl
            clear hzl
            go_wp2_with fail
            refine (frames_c X (by have := HXL.out; omega) _).mono ?_
            rintro e w3 ⟨fs3, r3, v3, rfl, h1, h2, h3⟩
            obtain ⟨a3, c3, rfl⟩ := h2.form
            have H3 := Lib.hid (And.intro h1 (And.intro h2 (HBW.out.trans (h3.mono HBW.out.size))))
            clear h1 h2 h3 HBW
            go_wp2_with fail
            refine (rframes_c X (by have := HXL.out; omega) _).mono ?_
            rintro e w4 ⟨fs4, r4, v4, rfl, h1, h2, h3⟩
            obtain ⟨e4, _⟩ := h1.inj H3.out.1
            subst e4
            obtain ⟨a4, c4, rfl⟩ := h2.form
            have hfl4 := frs_len fs4
            have hln := h1.len
            have hsm := same_c (H3.out.2.1.keep h3) h2 (by have := HXL.out; omega)
            rw [show decide (fs4 = fs4) = true from decide_eq_true rfl] at hsm
            have HB4 := Lib.hid (H3.out.2.2.trans (h3.mono H3.out.2.2.size))
            clear h1 h2 h3 H3 hfl4 hln
            go_wp2_with fail
            refine hsm.mono ?_
            rintro e w5 ⟨rfl, h1⟩
            have HB5 := Lib.hid (HB4.out.trans (h1.mono HB4.out.size))
            clear h1 hsm
            go_wp2_with fail
            go_ret
            exact ⟨rfl, HB5.out⟩
          · skip
            have HXL := Lib.hid hzl
            clear hzl
            go_wp2_with fail
            refine (frames_c X (by have := HXL.out; omega) _).mono ?_
            rintro e w3 ⟨fs3, r3, v3, rfl, h1, h2, h3⟩
            obtain ⟨a3, c3, rfl⟩ := h2.form
            have H3 := Lib.hid (And.intro h1 (And.intro h2 (HBW.out.trans (h3.mono HBW.out.size))))
            clear h1 h2 h3 HBW
            go_wp2_with fail
            refine (rframes_c X (by have := HXL.out; omega) _).mono ?_
            rintro e w4 ⟨fs4, r4, v4, rfl, h1, h2, h3⟩
            obtain ⟨e4, _⟩ := h1.inj H3.out.1
            subst e4
            obtain ⟨a4, c4, rfl⟩ := h2.form
            have hfl4 := frs_len fs4
            have hln := h1.len
            have hsm := same_c (H3.out.2.1.keep h3) h2 (by have := HXL.out; omega)
            rw [show decide (fs4 = fs4) = true from decide_eq_true rfl] at hsm
            have HB4 := Lib.hid (H3.out.2.2.trans (h3.mono H3.out.2.2.size))
            clear h1 h2 h3 H3 hfl4 hln
            go_wp2_with fail
            refine hsm.mono ?_
            rintro e w5 ⟨rfl, h1⟩
            have HB5 := Lib.hid (HB4.out.trans (h1.mono HB4.out.size))
            clear h1 hsm
            go_wp2_with fail
            go_ret
            exact ⟨rfl, HB5.out⟩
        · by_cases hn0 : at_ < 0
          · skip
            obtain ⟨A, hA⟩ : ∃ A : Nat, (A : Int) = -(at_ + 1) := ⟨(-(at_ + 1)).toNat, by omega⟩
            have hA1 : IntKind.i64.wrap (at_ + 1) = at_ + 1 := IntWalk.i64_in _ (by omega)
            have hA2 : IntKind.i64.wrap (-(at_ + 1)) = (A : Int) := by rw [IntWalk.i64_in _ (by omega)]; omega
            have hA3 : wrap64 (at_ + 1) = at_ + 1 := IntWalk.wrap64_in _ (by omega)
            have hA4 : wrap64 (-(at_ + 1)) = (A : Int) := by rw [IntWalk.wrap64_in _ (by omega)]; omega
            clear hA
            obtain ⟨M, hMdef⟩ : ∃ M, M = A % L := ⟨_, rfl⟩
            have hML : M < L := by rw [hMdef]; exact Nat.mod_lt _ (by omega)
            have hLi : (0 : Int) < (L : Int) := by omega
            have hLn : ¬ L = 0 := by omega
            have hmod : (A : Int).tmod (L : Int) = (M : Int) := by rw [Int.tmod_eq_emod_of_nonneg (by omega)]; omega
            have hmod2 : (A : Int) % (L : Int) = (M : Int) := by omega
            clear hMdef
            have d0 : W5.drew.cell? ⟨gb, M, none⟩ = some (.int .u8 (byteAt al M : Nat)) := (HY.out.1 M hML).1
            have e0 : W5.drew.frozen? ⟨gb, M, none⟩ = false := (HY.out.1 M hML).2
            have hMi : (M : Int) < (L : Int) := by omega
            have hM0 : (0 : Int) ≤ (M : Int) := by omega
            have hMw : IntKind.i64.wrap (M : Int) = (M : Int) := IntWalk.i64_in _ (by omega)
            have hxor := u8_xor_nat (byteAt al M) by_ (byteAt_lt _ _) hby
            have hset : Bt gb L (upd (byteAt al) M (byteAt al M ^^^ by_)) ((W5.setCell ⟨gb, M, none⟩ (.int .u8 (byteAt al M ^^^ by_ : Nat))).drew) := HY.out.1.set hML (byteAt al M ^^^ by_)
            have hcv2 := hset.conv (fun j => by unfold upd; split; (· exact Nat.xor_lt_two_pow (n := 8) (byteAt_lt _ _) hby); (· exact byteAt_lt _ _)) cap
            rw [← HAL.out.1, HAL.out.2, txt_turn hby (by rw [← HAL.out.2]; exact hML), HAL.out.2.symm, HAL.out.1] at hcv2
            have HBW := Lib.hid (show Below W.heap.size W ((W5.setCell ⟨gb, M, none⟩ (.int .u8 (byteAt al M ^^^ by_ : Nat))).drew) from (HY.out.2.1.setCell (show W.heap.size ≤ (⟨gb, M, none⟩ : Addr).block from HY.out.2.2) _).drew)
            have hzl : (turnB X M (UInt8.ofNat by_)).length ≤ 2000000 := by rw [turnB_len, ← HAL.out.2]; exact hLb
            generalize byteAt al M ^^^ by_ = nv at *
            generalize turnB X M (UInt8.ofNat by_) = zz at *
            go_wp2_with fail
            go_still_tail 15, (by kernel_rfl)
            change wpList _ _ _ _ _ W5.drew
            clear hxor hset
            have HzzL := Lib.hid hzl
            clear hzl
            go_wp2_with fail
            refine (frames_c zz (by have := HzzL.out; omega) _).mono ?_
            rintro e w3 ⟨fs3, r3, v3, rfl, h1, h2, h3⟩
            obtain ⟨a3, c3, rfl⟩ := h2.form
            have H3 := Lib.hid (And.intro h1 (And.intro h2 (HBW.out.trans (h3.mono HBW.out.size))))
            clear h1 h2 h3 HBW
            go_wp2_with fail
            refine (rframes_c zz (by have := HzzL.out; omega) _).mono ?_
            rintro e w4 ⟨fs4, r4, v4, rfl, h1, h2, h3⟩
            obtain ⟨e4, _⟩ := h1.inj H3.out.1
            subst e4
            obtain ⟨a4, c4, rfl⟩ := h2.form
            have hfl4 := frs_len fs4
            have hln := h1.len
            have hsm := same_c (H3.out.2.1.keep h3) h2 (by have := HzzL.out; omega)
            rw [show decide (fs4 = fs4) = true from decide_eq_true rfl] at hsm
            have HB4 := Lib.hid (H3.out.2.2.trans (h3.mono H3.out.2.2.size))
            clear h1 h2 h3 H3 hfl4 hln
            go_wp2_with fail
            refine hsm.mono ?_
            rintro e w5 ⟨rfl, h1⟩
            have HB5 := Lib.hid (HB4.out.trans (h1.mono HB4.out.size))
            clear h1 hsm
            go_wp2_with fail
            go_ret
            exact ⟨rfl, HB5.out⟩
          · skip
            obtain ⟨A, rfl⟩ : ∃ A : Nat, at_ = (A : Int) := ⟨at_.toNat, by omega⟩
            obtain ⟨M, hMdef⟩ : ∃ M, M = A % L := ⟨_, rfl⟩
            have hML : M < L := by rw [hMdef]; exact Nat.mod_lt _ (by omega)
            have hLi : (0 : Int) < (L : Int) := by omega
            have hLn : ¬ L = 0 := by omega
            have hmod : (A : Int).tmod (L : Int) = (M : Int) := by rw [Int.tmod_eq_emod_of_nonneg (by omega)]; omega
            have hmod2 : (A : Int) % (L : Int) = (M : Int) := by omega
            clear hMdef
            have d0 : W5.drew.cell? ⟨gb, M, none⟩ = some (.int .u8 (byteAt al M : Nat)) := (HY.out.1 M hML).1
            have e0 : W5.drew.frozen? ⟨gb, M, none⟩ = false := (HY.out.1 M hML).2
            have hMi : (M : Int) < (L : Int) := by omega
            have hM0 : (0 : Int) ≤ (M : Int) := by omega
            have hMw : IntKind.i64.wrap (M : Int) = (M : Int) := IntWalk.i64_in _ (by omega)
            have hxor := u8_xor_nat (byteAt al M) by_ (byteAt_lt _ _) hby
            have hset : Bt gb L (upd (byteAt al) M (byteAt al M ^^^ by_)) ((W5.setCell ⟨gb, M, none⟩ (.int .u8 (byteAt al M ^^^ by_ : Nat))).drew) := HY.out.1.set hML (byteAt al M ^^^ by_)
            have hcv2 := hset.conv (fun j => by unfold upd; split; (· exact Nat.xor_lt_two_pow (n := 8) (byteAt_lt _ _) hby); (· exact byteAt_lt _ _)) cap
            rw [← HAL.out.1, HAL.out.2, txt_turn hby (by rw [← HAL.out.2]; exact hML), HAL.out.2.symm, HAL.out.1] at hcv2
            have HBW := Lib.hid (show Below W.heap.size W ((W5.setCell ⟨gb, M, none⟩ (.int .u8 (byteAt al M ^^^ by_ : Nat))).drew) from (HY.out.2.1.setCell (show W.heap.size ≤ (⟨gb, M, none⟩ : Addr).block from HY.out.2.2) _).drew)
            have hzl : (turnB X M (UInt8.ofNat by_)).length ≤ 2000000 := by rw [turnB_len, ← HAL.out.2]; exact hLb
            generalize byteAt al M ^^^ by_ = nv at *
            generalize turnB X M (UInt8.ofNat by_) = zz at *
            go_wp2_with fail
            go_still_tail 15, (by kernel_rfl)
            change wpList _ _ _ _ _ W5.drew
            clear hxor hset
            have HzzL := Lib.hid hzl
            clear hzl
            go_wp2_with fail
            refine (frames_c zz (by have := HzzL.out; omega) _).mono ?_
            rintro e w3 ⟨fs3, r3, v3, rfl, h1, h2, h3⟩
            obtain ⟨a3, c3, rfl⟩ := h2.form
            have H3 := Lib.hid (And.intro h1 (And.intro h2 (HBW.out.trans (h3.mono HBW.out.size))))
            clear h1 h2 h3 HBW
            go_wp2_with fail
            refine (rframes_c zz (by have := HzzL.out; omega) _).mono ?_
            rintro e w4 ⟨fs4, r4, v4, rfl, h1, h2, h3⟩
            obtain ⟨e4, _⟩ := h1.inj H3.out.1
            subst e4
            obtain ⟨a4, c4, rfl⟩ := h2.form
            have hfl4 := frs_len fs4
            have hln := h1.len
            have hsm := same_c (H3.out.2.1.keep h3) h2 (by have := HzzL.out; omega)
            rw [show decide (fs4 = fs4) = true from decide_eq_true rfl] at hsm
            have HB4 := Lib.hid (H3.out.2.2.trans (h3.mono H3.out.2.2.size))
            clear h1 h2 h3 H3 hfl4 hln
            go_wp2_with fail
            refine hsm.mono ?_
            rintro e w5 ⟨rfl, h1⟩
            have HB5 := Lib.hid (HB4.out.trans (h1.mono HB4.out.size))
            clear h1 hsm
            go_wp2_with fail
            go_ret
            exact ⟨rfl, HB5.out⟩
end Go.Proofs.Ytoiooohdenfpmaa
