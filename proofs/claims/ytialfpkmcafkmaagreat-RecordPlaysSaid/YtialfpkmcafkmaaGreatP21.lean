/- RecordPlays: texts are added, files mended and replaced, deed by deed, as the reference does. -/
import Derived.Test.YtialfpkmcafkmaaGreatP20
import Derived.Test.YtialfpkmcafkmaaGreatQd
namespace Go.Proofs.YtialfpkmcafkmaaGreat
open Go.RowKit

/-- A deed among a law's arguments. -/
structure Du where
  k : Nat
  a : Nat
  s : Nm
  n : Int
  m : Int
structure Du.Ok (u : Du) : Prop where
  k : u.k < 256
  a : u.a < 256
  s : u.s.length ≤ 4000000000000000000
  n : -9223372036854775808 ≤ u.n ∧ u.n ≤ 9223372036854775807
/-- A slice of deeds that a law is handed. -/
def Deeds (W : World) (pa : Option Addr) (l : List Du) : Prop :=
  l = [] ∨ ∃ g o, pa = some ⟨g, o, none⟩ ∧ g < W.heap.size ∧ ∀ (i : Nat) (u : Du), l[i]? = some u → u.Ok ∧ W.cell? ⟨g, o + i * 5, none⟩ = some (.int .u8 u.k) ∧ W.cell? ⟨g, o + i * 5 + 1, none⟩ = some (.int .u8 u.a) ∧ W.cell? ⟨g, o + i * 5 + 2, none⟩ = some (.string (str u.s)) ∧ W.cell? ⟨g, o + i * 5 + 3, none⟩ = some (.int .i64 u.n) ∧ W.cell? ⟨g, o + i * 5 + 4, none⟩ = some (.int .i64 u.m)
def Ar (w : World) (j : Nat) : Prop := j < w.heap.size
/-- Before deed k. -/
def RpS (w : World) (room k : Nat) (d b : Nat) (V : World) : Prop :=
  ∃ p N F v, Tw (Ar w) w p p d N F b w.heap.size v V ∧ N ≤ 5 * k ∧ p.L.length ≤ k ∧ p.room = room ∧ Sh p
theorem firstV_form (o : Option Nm) : ∃ y ok, firstV o = .tuple #[.string (str y), .bool ok] := by
  cases o with
  | none => exact ⟨[], false, rfl⟩
  | some t => exact ⟨t, true, rfl⟩
theorem Tw.bel {w : World} {q p : Pd} {d N : Nat} {F : Nat → Prop} {b B : Nat} {v : Value} {V : World} (h : Tw (Ar w) w q p d N F b B v V) (hB : w.heap.size ≤ B) : Below w.heap.size w V :=
  ⟨h.os, h.tape, h.output, Nat.le_trans hB h.size, fun k hk => (h.ext k hk).2.2.2⟩
theorem frs_len9 (l : List Nm) : l.length ≤ (frs l).length := by
  induction l with
  | nil => simp
  | cons t r ih => simp only [frs, List.length_append, fr_len, List.length_cons]; omega
theorem fs_len {s : Nm} {l : List Nm} {r : Nm} (h : Fs s l r) (hs : s.length ≤ 1048576) : l.length ≤ 1048576 := by
  have h1 := congrArg List.length h.eq
  rw [List.length_append] at h1
  have := frs_len9 l
  omega
set_option maxRecDepth 100000 in
set_option maxHeartbeats 4000000 in
theorem plays_c (room : Nat) (hr : room < 65536) (pa : Option Addr) (pc : Nat) (l : List Du) (w : World) (hD : Deeds w pa l) (hlm : l.length ≤ 9223372036854775807) :
    Calls Tryz.prog 3 #[.int .u16 room, .slice pa l.length pc] w fun e w' => e = .returned (.bool true) ∧ Below w.heap.size w w' := by
  have HD := Lib.hid hD
  have hwc : IntKind.i64.wrap (room : Int) = (room : Int) := IntWalk.i64_in _ (by omega)
  clear hD
  go_enter Tryz.func3, Tryz.ntmps3
  go_wp2_with fail
  refine (exam_c _).mono ?_
  rintro e w1 ⟨rfl, h1⟩
  have H1 := Lib.hid h1
  clear h1
  go_wp2_with fail
  refine (on_new room (by omega) w1).mono ?_
  rintro e w2 ⟨d, rfl, hl⟩
  have H2 := Lib.hid hl
  clear hl
  go_wp2_with fail
  refine (pnew_c (B := w2.heap.size) room (by omega) w2 (Nat.le_refl _)).mono ?_
  rintro e w3 ⟨rfl, k1, k2, k3⟩
  have HS := Lib.hid (show RpS w room 0 d w2.heap.size w3 from by
    obtain ⟨F, q1, q2⟩ := H2.out
    have hFg : ∀ j, F j → w1.heap.size ≤ j := fun j hj => (q2.new j hj).elim False.elim id
    have hb2 : Below w1.heap.size w1 w2 := ⟨q2.os, q2.tape, q2.output, q2.size, fun j hj => q2.block j hj (fun f => f)⟩
    have hbw := (H1.out.trans (hb2.mono H1.out.size)).trans (k2.mono (Nat.le_trans H1.out.size q2.size))
    refine ⟨Pd.new room, 0, F, _, ⟨q1.below k2, k1.from (Nat.le_trans H1.out.size q2.size), fun j hj hf => ?_, hbw.os, hbw.tape, hbw.output, fun j hj => ?_⟩, by omega, by simp [Pd.new], rfl, fun e he => by cases he⟩
    · have := (k1.lt hj).2; have := q1.lt hf; omega
    · have hj' : j < w.heap.size := hj
      have hs1 := H1.out.size
      have hs2 := q2.size
      exact ⟨by omega, fun hf => by have := hFg j hf; omega, fun hf => by have := (k1.lt hf).2; omega, hbw.block j hj'⟩)
  clear H1 H2 k1 k2 k3
  generalize w2.heap.size = b0 at *
  go_wp2_with fail
  go_loopw [6, 8, 9] (fun dv xv i wr => ∃ k d b : Nat, i = .int .i64 k ∧ k ≤ l.length ∧ k ≤ 40 ∧ dv = .pointer (some ⟨d, 0, none⟩) ∧ xv = .pointer (some ⟨b, 0, none⟩) ∧ RpS w room k d b wr) (fun _ _ i _ => 40 - (intOf i).toNat)
  case atStart => exact ⟨0, d, b0, rfl, by omega, by omega, rfl, rfl, HS.out⟩
  case round =>
    clear HS
    obtain ⟨k, d, b, rfl, hk, hk4, rfl, rfl, p, N, F, v, T, hN, hL, hroom, hsh⟩ := hrel
    by_cases hlt : k < l.length ∧ k < 40
    · obtain ⟨u, hu⟩ : ∃ u, l[k]? = some u := ⟨_, List.getElem?_eq_getElem hlt.1⟩
      obtain ⟨g, o, rfl, hg, hc⟩ : ∃ g o, pa = some ⟨g, o, none⟩ ∧ g < w.heap.size ∧ _ := by
        rcases HD.out with h | ⟨g, o, h1, h2, h3⟩
        · rw [h] at hu; cases hu
        · exact ⟨g, o, h1, h2, h3⟩
      obtain ⟨hok, c0, c1, c2, c3, c4⟩ := hc k u hu
      have HC := Lib.hid (fun (V : World) (j : Nat) (x : Value) (hV : Below w.heap.size w V) (h : w.cell? ⟨g, j, none⟩ = some x) => (World.cell?_of_block (a := ⟨g, j, none⟩) (hV.block g hg)).trans h)
      have hb0 := T.bel (Nat.le_refl _)
      have HA := Lib.hid c1
      replace c0 := HC.out _ _ _ hb0 c0
      replace c1 := HC.out _ _ _ hb0 c1
      replace c2 := HC.out _ _ _ hb0 c2
      replace c3 := HC.out _ _ _ hb0 c3
      replace c4 := HC.out _ _ _ hb0 c4
      have hl1 : (k : Int) < (l.length : Int) := by omega
      have hl2 : (k : Int) < 40 := by omega
      have hk0 : (0 : Int) ≤ (k : Int) := by omega
      have hwk : IntKind.i64.wrap ((k : Int) + 1) = (k : Int) + 1 := IntWalk.i64_in _ (by omega)
      have HE := Lib.hid (does_c (k := u.k) (a := u.a) (s := u.s) (n := u.n) (m := u.m) T (by omega) (by omega) hok.a hok.s hok.n (by rw [hroom]; exact Nat.le_trans (Nat.mul_le_mul (show room ≤ 65536 by omega) (show N ≤ 200 by omega)) (by decide)))
      have HP := Lib.hid (And.intro hN (And.intro hL (And.intro hroom (And.intro hsh (And.intro hok (And.intro hu hlt))))))
      clear hN hL hroom hsh hok hu hlt T hb0 hc
      unfold deedC at HE
      go_wp2_with fail
      refine HE.out.mono ?_
      rintro e w4 ⟨p', d', N', F', b', v', hg', hs', hn', rfl, T4⟩
      have HQ := Lib.hid (show N' ≤ 5 * (k + 1) ∧ p'.L.length ≤ k + 1 ∧ p'.room = room ∧ Sh p' from ⟨by have := HP.out.1; omega, by have := HP.out.2.1; have := hg'.len; omega, hg'.room.trans HP.out.2.2.1, hs' HP.out.2.2.2.1⟩)
      have AL := Lib.hid (alike_c T4 (by have := HQ.out.2.1; omega) HQ.out.2.2.2)
      have K4 := Lib.hid T4
      have HNm := Lib.hid (fun V => name_c u.a HP.out.2.2.2.2.1.a V)
      have hnl : (nm u.a).length ≤ maxLen := by have := nm_len u.a; unfold maxLen; omega
      have HNl := Lib.hid hnl
      obtain ⟨y, ok, hyo⟩ := firstV_form (wholeP (bsE (getE p'.L (nm u.a))))
      have HY := Lib.hid hyo
      clear hg' hs' hn' T4 HE c0 c1 c2 c3 c4 hnl hyo
      go_wp2_with fail
      refine AL.out.mono ?_
      rintro e w5 ⟨rfl, hb⟩
      have K5 := Lib.hid (K4.out.call hb)
      have c1 := HC.out _ _ _ (K5.out.bel (Nat.le_refl _)) HA.out
      clear hb K4 AL
      go_wp2_with fail
      refine (HNm.out _).mono ?_
      rintro e w6 ⟨rfl, hb⟩
      have K6 := Lib.hid (K5.out.call hb)
      clear hb K5 c1
      have W6 := Lib.hid (K6.out.on.whole HNl.out)
      rw [HY.out] at W6
      go_wp2_with fail
      refine W6.out.mono ?_
      rintro e w7 ⟨rfl, hb⟩
      have K7 := Lib.hid (K6.out.call hb)
      have c1 := HC.out _ _ _ (K7.out.bel (Nat.le_refl _)) HA.out
      clear hb K6 W6
      go_wp2_with fail
      refine (HNm.out _).mono ?_
      rintro e w8 ⟨rfl, hb⟩
      have K8 := Lib.hid (K7.out.call hb)
      clear hb K7 c1
      have W8 := Lib.hid (pwhole_c K8.out.rk K8.out.on.ok (nm u.a))
      rw [HY.out] at W8
      go_wp2_with fail
      refine W8.out.mono ?_
      rintro e w9 ⟨rfl, hb⟩
      have K9 := Lib.hid (K8.out.call hb)
      have c1 := HC.out _ _ _ (K9.out.bel (Nat.le_refl _)) HA.out
      clear hb K8 W8
      obtain ⟨lf, rf, hF⟩ := Fs.exist (bsE (getE p'.L (nm u.a)))
      have hll := fs_len hF (bs_le K9.out.on.ok (nm u.a))
      have HAll := Lib.hid (fun (V : World) (F'' : Nat → Prop) (t : On p' d' N' F'' V) => t.all HNl.out hF)
      have HRll := Lib.hid (fun (V : World) (t : Rk p' b' v' w.heap.size V) => pall_c t K9.out.on.ok (nm u.a) hF)
      clear hF HY
      go_wp2_with fail
      clear c1
      have T0 := K9.out.call (Below.refl w9.heap.size w9).drew
      have H0 : w9.drew.cell? ⟨g, o + k * 5 + 1, none⟩ = some (.int .u8 u.a) := HC.out _ _ _ (T0.bel (Nat.le_refl _)) HA.out
      have HS := Lib.hid (fun (V : World) (hV : V.cell? ⟨g, o + k * 5 + 1, none⟩ = some (.int .u8 u.a)) => hV)
      refine Drawn.start (fun V => V.cell? ⟨g, o + k * 5 + 1, none⟩ = some (.int .u8 u.a)) (fun _ => false) (by kernel_rfl) ?_
      refine Drawn.take 0 (some 92) (v := ?_) rfl rfl (by kernel_rfl) (by kernel_rfl) (by kernel_rfl) (by kernel_rfl) (by kernel_rfl) rfl (fun _ _ _ h => h) (Or.inl ⟨rfl, ?_⟩) H0 ?_
      rotate_left
      · intro W hW; have hW := HS.out W hW; go_simp; try with_reducible rfl
      simp only [put_list, List.set]
      refine Drawn.take 1 (some 93) (v := ?_) rfl rfl (by kernel_rfl) (by kernel_rfl) (by kernel_rfl) (by kernel_rfl) (by kernel_rfl) rfl (fun _ _ _ h => h) (Or.inl ⟨rfl, ?_⟩) H0 ?_
      rotate_left
      · intro W hW; have hW := HS.out W hW; go_simp; try with_reducible rfl
      simp only [put_list, List.set]
      refine Drawn.take 2 (some 94) (v := ?_) rfl rfl (by kernel_rfl) (by kernel_rfl) (by kernel_rfl) (by kernel_rfl) (by kernel_rfl) rfl (fun _ _ _ h => h) (Or.inl ⟨rfl, ?_⟩) H0 ?_
      rotate_left
      · intro W hW; have hW := HS.out W hW; go_simp; try with_reducible rfl
      simp only [put_list, List.set]
      refine Drawn.take 3 (some 95) (v := ?_) rfl rfl (by kernel_rfl) (by kernel_rfl) (by kernel_rfl) (by kernel_rfl) (by kernel_rfl) rfl (fun _ _ _ h => h) (Or.inl ⟨rfl, ?_⟩) H0 ?_
      rotate_left
      · intro W hW; have hW := HS.out W hW; go_simp; try with_reducible rfl
      simp only [put_list, List.set]
      refine Drawn.take 4 (some 96) (v := ?_) rfl rfl (by kernel_rfl) (by kernel_rfl) (by kernel_rfl) (by kernel_rfl) (by kernel_rfl) rfl (fun _ _ _ h => h) (Or.inl ⟨rfl, ?_⟩) H0 ?_
      rotate_left
      · intro W hW; have hW := HS.out W hW; go_simp; try with_reducible rfl
      simp only [put_list, List.set]
      refine Drawn.take 5 (some 97) (v := ?_) rfl rfl (by kernel_rfl) (by kernel_rfl) (by kernel_rfl) (by kernel_rfl) (by kernel_rfl) rfl (fun _ _ _ h => h) (Or.inl ⟨rfl, ?_⟩) H0 ?_
      rotate_left
      · intro W hW; have hW := HS.out W hW; go_simp; try with_reducible rfl
      simp only [put_list, List.set]
      refine Drawn.take 6 (some 98) (v := ?_) rfl rfl (by kernel_rfl) (by kernel_rfl) (by kernel_rfl) (by kernel_rfl) (by kernel_rfl) rfl (fun _ _ _ h => h) (Or.inl ⟨rfl, ?_⟩) H0 ?_
      rotate_left
      · intro W hW; have hW := HS.out W hW; go_simp; try with_reducible rfl
      simp only [put_list, List.set]
      refine Drawn.take 7 (some 99) (v := ?_) rfl rfl (by kernel_rfl) (by kernel_rfl) (by kernel_rfl) (by kernel_rfl) (by kernel_rfl) rfl (fun _ _ _ h => h) (Or.inl ⟨rfl, ?_⟩) H0 ?_
      rotate_left
      · intro W hW; have hW := HS.out W hW; go_simp; try with_reducible rfl
      simp only [put_list, List.set]
      refine Drawn.take 8 (some 100) (v := ?_) rfl rfl (by kernel_rfl) (by kernel_rfl) (by kernel_rfl) (by kernel_rfl) (by kernel_rfl) rfl (fun _ _ _ h => h) (Or.inl ⟨rfl, ?_⟩) H0 ?_
      rotate_left
      · intro W hW; have hW := HS.out W hW; go_simp; try with_reducible rfl
      simp only [put_list, List.set]
      refine Drawn.take 9 (some 101) (v := ?_) rfl rfl (by kernel_rfl) (by kernel_rfl) (by kernel_rfl) (by kernel_rfl) (by kernel_rfl) rfl (fun _ _ _ h => h) (Or.inl ⟨rfl, ?_⟩) H0 ?_
      rotate_left
      · intro W hW; have hW := HS.out W hW; go_simp; try with_reducible rfl
      simp only [put_list, List.set]
      refine Drawn.take 10 (some 102) (v := ?_) rfl rfl (by kernel_rfl) (by kernel_rfl) (by kernel_rfl) (by kernel_rfl) (by kernel_rfl) rfl (fun _ _ _ h => h) (Or.inl ⟨rfl, ?_⟩) H0 ?_
      rotate_left
      · intro W hW; have hW := HS.out W hW; go_simp; try with_reducible rfl
      simp only [put_list, List.set]
      refine Drawn.take 11 (some 103) (v := ?_) rfl rfl (by kernel_rfl) (by kernel_rfl) (by kernel_rfl) (by kernel_rfl) (by kernel_rfl) rfl (fun _ _ _ h => h) (Or.inl ⟨rfl, ?_⟩) H0 ?_
      rotate_left
      · intro W hW; have hW := HS.out W hW; go_simp; try with_reducible rfl
      simp only [put_list, List.set]
      refine Drawn.take 12 (some 104) (v := ?_) rfl rfl (by kernel_rfl) (by kernel_rfl) (by kernel_rfl) (by kernel_rfl) (by kernel_rfl) rfl (fun _ _ _ h => h) (Or.inl ⟨rfl, ?_⟩) H0 ?_
      rotate_left
      · intro W hW; have hW := HS.out W hW; go_simp; try with_reducible rfl
      simp only [put_list, List.set]
      refine Drawn.take 13 (some 105) (v := ?_) rfl rfl (by kernel_rfl) (by kernel_rfl) (by kernel_rfl) (by kernel_rfl) (by kernel_rfl) rfl (fun _ _ _ h => h) (Or.inl ⟨rfl, ?_⟩) H0 ?_
      rotate_left
      · intro W hW; have hW := HS.out W hW; go_simp; try with_reducible rfl
      simp only [put_list, List.set]
      refine Drawn.take 14 (some 106) (v := ?_) rfl rfl (by kernel_rfl) (by kernel_rfl) (by kernel_rfl) (by kernel_rfl) (by kernel_rfl) rfl (fun _ _ _ h => h) (Or.inl ⟨rfl, ?_⟩) H0 ?_
      rotate_left
      · intro W hW; have hW := HS.out W hW; go_simp; try with_reducible rfl
      simp only [put_list, List.set]
      refine Drawn.take 17 (some 109) (v := ?_) rfl rfl (by kernel_rfl) (by kernel_rfl) (by kernel_rfl) (by kernel_rfl) (by kernel_rfl) rfl (fun _ _ _ h => h) (Or.inl ⟨rfl, ?_⟩) H0 ?_
      rotate_left
      · intro W hW; have hW := HS.out W hW; go_simp; try with_reducible rfl
      simp only [put_list, List.set]
      refine Drawn.take 18 (some 110) (v := ?_) rfl rfl (by kernel_rfl) (by kernel_rfl) (by kernel_rfl) (by kernel_rfl) (by kernel_rfl) rfl (fun _ _ _ h => h) (Or.inl ⟨rfl, ?_⟩) H0 ?_
      rotate_left
      · intro W hW; have hW := HS.out W hW; go_simp; try with_reducible rfl
      simp only [put_list, List.set]
      refine Drawn.take 19 (some 111) (v := ?_) rfl rfl (by kernel_rfl) (by kernel_rfl) (by kernel_rfl) (by kernel_rfl) (by kernel_rfl) rfl (fun _ _ _ h => h) (Or.inl ⟨rfl, ?_⟩) H0 ?_
      rotate_left
      · intro W hW; have hW := HS.out W hW; go_simp; try with_reducible rfl
      simp only [put_list, List.set]
      refine Drawn.take 20 (some 112) (v := ?_) rfl rfl (by kernel_rfl) (by kernel_rfl) (by kernel_rfl) (by kernel_rfl) (by kernel_rfl) rfl (fun _ _ _ h => h) (Or.inl ⟨rfl, ?_⟩) H0 ?_
      rotate_left
      · intro W hW; have hW := HS.out W hW; go_simp; try with_reducible rfl
      simp only [put_list, List.set]
      refine Drawn.take 21 (some 113) (v := ?_) rfl rfl (by kernel_rfl) (by kernel_rfl) (by kernel_rfl) (by kernel_rfl) (by kernel_rfl) rfl (fun _ _ _ h => h) (Or.inl ⟨rfl, ?_⟩) H0 ?_
      rotate_left
      · intro W hW; have hW := HS.out W hW; go_simp; try with_reducible rfl
      simp only [put_list, List.set]
      refine Drawn.take 22 (some 114) (v := ?_) rfl rfl (by kernel_rfl) (by kernel_rfl) (by kernel_rfl) (by kernel_rfl) (by kernel_rfl) rfl (fun _ _ _ h => h) (Or.inl ⟨rfl, ?_⟩) H0 ?_
      rotate_left
      · intro W hW; have hW := HS.out W hW; go_simp; try with_reducible rfl
      simp only [put_list, List.set]
      clear H0
      generalize w9.drew = Va at T0 ⊢
      refine Drawn.only 15 (by kernel_rfl) rfl rfl (fun K hK => ?_)
      go_simp
      refine (HNm.out _).mono ?_
      rintro e V1 ⟨rfl, hb⟩
      replace T0 := T0.call hb
      refine hK _ _ (fun _ _ => HC.out _ _ _ (T0.bel (Nat.le_refl _)) HA.out) ?_
      skip
      clear hb
      clear hK K
      try simp only [put_list, List.set]
      refine Drawn.only 16 (by kernel_rfl) rfl rfl (fun K hK => ?_)
      go_simp
      refine (HAll.out _ _ T0.on).mono ?_
      rintro e V2 ⟨va, rfl, ha, hb⟩
      replace T0 := T0.call hb
      refine hK _ _ (fun _ _ => HC.out _ _ _ (T0.bel (Nat.le_refl _)) HA.out) ?_
      clear hb
      clear hK K
      try simp only [put_list, List.set]
      refine Drawn.only 23 (by kernel_rfl) rfl rfl (fun K hK => ?_)
      go_simp
      refine (HNm.out _).mono ?_
      rintro e V3 ⟨rfl, hb⟩
      replace T0 := T0.call hb
      refine hK _ _ (fun _ _ => HC.out _ _ _ (T0.bel (Nat.le_refl _)) HA.out) ?_
      replace ha := ha.keep hb
      clear hb
      clear hK K
      try simp only [put_list, List.set]
      refine Drawn.only 24 (by kernel_rfl) rfl rfl (fun K hK => ?_)
      go_simp
      refine (HRll.out _ T0.rk).mono ?_
      rintro e V4 ⟨vb, rfl, hbo, hb⟩
      replace T0 := T0.call hb
      replace ha := ha.keep hb
      refine hK _ _ (fun _ _ => HC.out _ _ _ (T0.bel (Nat.le_refl _)) HA.out) ?_
      clear hb
      clear hK K
      try simp only [put_list, List.set]
      refine Drawn.only 25 (by kernel_rfl) rfl rfl (fun K hK => ?_)
      go_simp
      refine (same_c ha hbo (by omega)).mono ?_
      rintro e V5 ⟨rfl, hb⟩
      replace T0 := T0.call hb
      rw [show decide (lf = lf) = true by simp]
      refine hK _ _ (fun _ _ => HC.out _ _ _ (T0.bel (Nat.le_refl _)) HA.out) ?_
      clear hb ha hbo
      clear hK K
      try simp only [put_list, List.set]
      have H5 : V5.cell? ⟨g, o + k * 5 + 1, none⟩ = some (.int .u8 u.a) := HC.out _ _ _ (T0.bel (Nat.le_refl _)) HA.out
      have HT := Lib.hid T0
      refine Drawn.take 26 (some 118) (v := ?_) rfl rfl (by kernel_rfl) (by kernel_rfl) (by kernel_rfl) (by kernel_rfl) (by kernel_rfl) rfl (fun _ _ _ h => h) (Or.inl ⟨rfl, ?_⟩) H5 ?_
      rotate_left
      · intro W hW; have hW := HS.out W hW; go_simp; try with_reducible rfl
      simp only [put_list, List.set]
      refine Drawn.take 27 (some 119) (v := ?_) rfl rfl (by kernel_rfl) (by kernel_rfl) (by kernel_rfl) (by kernel_rfl) (by kernel_rfl) rfl (fun _ _ _ h => h) (Or.inl ⟨rfl, ?_⟩) H5 ?_
      rotate_left
      · intro W hW; have hW := HS.out W hW; go_simp; try with_reducible rfl
      simp only [put_list, List.set]
      refine Drawn.done (by kernel_rfl) ?_ _
      clear H5 T0 HS HAll HRll K9
      go_wp2_with fail
      exact ⟨⟨k + 1, d', b', by go_num, by have := HP.out.2.2.2.2.2.2; omega, by have := HP.out.2.2.2.2.2.2; omega, rfl, rfl, p', N', F', v', HT.out, HQ.out⟩, by simp [intOf]; omega⟩
    · have HB := Lib.hid (T.bel (Nat.le_refl _))
      by_cases h1 : k < l.length
      · have hl1 : (k : Int) < (l.length : Int) := by omega
        have hl2 : ¬ (k : Int) < 40 := by omega
        clear T hN hL hroom hsh hlt
        go_wp2_with fail
        go_ret
        exact ⟨rfl, HB.out⟩
      · have hl1 : ¬ (k : Int) < (l.length : Int) := by omega
        clear T hN hL hroom hsh hlt
        go_wp2_with fail
        go_ret
        exact ⟨rfl, HB.out⟩
end Go.Proofs.YtialfpkmcafkmaaGreat
