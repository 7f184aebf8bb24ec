/- The contract of math/bits.Div64. -/
import Derived.Test.YthbfhfgmanafpaaDivN
import Derived.Test.YthbfhfgmanafpaaWordM
import Derived.Test.YthbfhfgmanafpaaMoveB
import Derived.RegionTactic
import Derived.Deep.DeepCutAuto
import Derived.Deep.CutBlock
namespace Go.Proofs.Ythbfhfgmanafpaa
open Go.RowKit

/-- A call that hands back a quotient and some rest. -/
def RetQ (q : Nat) (w : World) (e : Ending) (w' : World) : Prop := ∃ r : Int, e = .returned (.tuple #[.int .u64 q, .int .u64 r]) ∧ Below w.heap.size w w'

theorem lead64 (x : Nat) (hx : x < M64) (w : World) :
    Calls Try.prog 93 #[.int .u64 x] w fun e w' => e = .returned (.int .i64 (64 - (Lib.bitLen x : Int))) ∧ w = w' := by
  refine (Try.bits_LeadingZeros64 x w (by omega) (by unfold M64 at hx; omega)).mono ?_
  rintro e w' ⟨rfl, rfl⟩
  exact ⟨by simp, rfl⟩

set_option maxRecDepth 100000 in
set_option maxHeartbeats 1000000 in
theorem div64_low (l y : Nat) (hy : 0 < y) (hyM : y < M64) (hl : l < M64) (w : World) :
    Calls Try.prog 96 #[.int .u64 0, .int .u64 l, .int .u64 y] w (RetQ (l / y) w) := by
  have hy0 : ((y : Int) == 0) = false := by simp; omega
  have hy1 : 1 ≤ (y : Int) := by omega
  have hl0 : 0 ≤ (l : Int) := by omega
  have hyle : decide ((y : Int) ≤ 0) = false := by simp; omega
  have hq : (l : Int) / (y : Int) = ((l / y : Nat) : Int) := by simp
  have hql : l / y ≤ l := Nat.div_le_self _ _
  have hwq : IntKind.u64.wrap ((l / y : Nat) : Int) = ((l / y : Nat) : Int) := wrap_nat _ (by omega)
  generalize l / y = q at *
  unfold M64 at hyM
  go_enter Try.func96, Try.ntmps96
  go_wp2_with fail
  go_region
  all_goals
    go_wp2_with fail
    go_ret2
    exact ⟨_, rfl, (Below.refl _ _).drew⟩

def trialQ (u v Y : Nat) : Nat := (u * 4294967296 + v) / Y
def trialR (u v Y : Nat) : Nat := (u * 4294967296 + v) % Y
/-- What a trial quotient's loop knows: T is the quotient. -/
structure Trial (u v y1 y0 Y T z : Nat) : Prop where
  lt : T < 4294967296
  start : T ≤ u / y1
  rest : T * Y + z = u * 4294967296 + v
  z_lt : z < Y
  down : ∀ {q r p0 : Nat}, q * y0 = p0 → y1 * q + r = u → (4294967296 ≤ q ∨ 4294967296 * r + v < p0) → T ≤ q - 1 ∧ 1 ≤ q
  done : ∀ {q r p0 : Nat}, q * y0 = p0 → y1 * q + r = u → T ≤ q → p0 ≤ 4294967296 * r + v → q = T
  far : ∀ {q r : Nat}, y1 * q + r = u → T ≤ q → 4294967296 ≤ r → q = T
theorem trial_all {u v y1 y0 Y : Nat} (eY : y1 * 4294967296 + y0 = Y) (h1 : 0 < y1) (h0 : y0 < 4294967296) (hu : u < Y) (hv : v < 4294967296) : Trial u v y1 y0 Y (trialQ u v Y) (trialR u v Y) := by
  have hY : 0 < Y := by omega
  unfold trialQ trialR
  refine ⟨trial_lt hu hv, ?_, (rest_of hY).1, (rest_of hY).2, ?_, ?_, ?_⟩
  · rw [← eY]; exact trial_start h1 hv
  · intro q r p0 h k l; rw [← eY]; exact trial_down h k (by omega) hv l
  · intro q r p0 h k l m; rw [← eY] at l ⊢; exact trial_done h k (by omega) l m
  · intro q r h k l; rw [← eY] at k ⊢; exact trial_far h (by omega) h0 k l

/-- What Div64 reckons with. -/
structure Halves (h l y s Y y1 y0 u t un1 un0 : Nat) : Prop where
  top : M64 / 2 ≤ Y ∧ Y < M64
  hA : IntKind.u64.wrap ((y : Int) * 2 ^ s) = (Y : Int)
  hB : (Y : Int) / 4294967296 = (y1 : Int)
  hC : Go.bits .and .u64 (Y : Int) 4294967295 = (y0 : Int)
  hD : Go.bits .or .u64 (IntKind.u64.wrap ((h : Int) * 2 ^ s)) ((l : Int) / 2 ^ (64 - s)) = (u : Int)
  hE : IntKind.u64.wrap ((l : Int) * 2 ^ s) = (t : Int)
  hF : (t : Int) / 4294967296 = (un1 : Int)
  hG : Go.bits .and .u64 (t : Int) 4294967295 = (un0 : Int)
  hu : u < Y
  eY : y1 * 4294967296 + y0 = Y
  y0_lt : y0 < 4294967296
  u1_lt : un1 < 4294967296
  u0_lt : un0 < 4294967296
  eq : trialQ u un1 Y * 4294967296 + trialQ (trialR u un1 Y) un0 Y = (h * M64 + l) / y

theorem low32 (x : Nat) (hx : x < M64) : Go.bits .and .u64 (x : Int) 4294967295 = ((x % 4294967296 : Nat) : Int) := by
  have h := and64 x 4294967295 hx (by decide)
  rw [show (4294967295 : Nat) = 2 ^ 32 - 1 by decide, Nat.and_two_pow_sub_one_eq_mod] at h
  exact h

theorem halves_of {h l y s : Nat} (hy : h < y) (hl : l < M64) (hyM : y < M64) (hs : s + Lib.bitLen y = 64) :
    ∃ Y y1 y0 u t un1 un0, Halves h l y s Y y1 y0 u t un1 un0 := by
  obtain ⟨hs64, t1, t2⟩ := top_bit (by omega) hyM hs
  have hp : 0 < 2 ^ s := Nat.pow_pos (by decide)
  have hlt : l / 2 ^ (64 - s) < 2 ^ s := by
    rw [M64_pow hs64, Nat.mul_comm] at hl
    exact (Nat.div_lt_iff_lt_mul (Nat.pow_pos (by decide))).2 hl
  have hh : h * 2 ^ s + 2 ^ s ≤ y * 2 ^ s := by
    have := Nat.mul_le_mul_right (2 ^ s) hy
    rwa [Nat.succ_mul] at this
  have hu : h * 2 ^ s + l / 2 ^ (64 - s) < y * 2 ^ s := by omega
  have e64 : ∀ x : Nat, IntKind.u64.wrap ((x : Int) * 2 ^ s) = ((x * 2 ^ s % M64 : Nat) : Int) := by
    intro x
    rw [IntKind.wrap_u64]
    unfold M64
    simp
  have hor := shl_or h hs64 hlt
  rw [Nat.mod_eq_of_lt (show h * 2 ^ s < M64 by omega)] at hor
  have hlM : l * 2 ^ s % M64 < M64 := Nat.mod_lt _ (by decide)
  have key : h * 2 ^ s * M64 + l * 2 ^ s = (h * 2 ^ s + l / 2 ^ (64 - s)) * M64 + l * 2 ^ s % M64 := by
    have e := Nat.mod_add_div (l * 2 ^ s) M64
    rw [M64_pow hs64, Nat.mul_div_mul_right _ _ hp, ← M64_pow hs64] at e
    rw [Nat.add_mul, Nat.mul_comm (l / _) M64]
    omega
  refine ⟨y * 2 ^ s, y * 2 ^ s / 4294967296, y * 2 ^ s % 4294967296, h * 2 ^ s + l / 2 ^ (64 - s), l * 2 ^ s % M64, l * 2 ^ s % M64 / 4294967296, l * 2 ^ s % M64 % 4294967296,
    ⟨⟨t1, t2⟩, ?_, ?_, low32 _ t2, ?_, e64 l, ?_, low32 _ hlM, hu, ?_, Nat.mod_lt _ (by decide), ?_, Nat.mod_lt _ (by decide), ?_⟩⟩
  · rw [e64, Nat.mod_eq_of_lt t2]
  · omega
  · rw [← hor]; simp
  · omega
  · omega
  · unfold M64 at hlM ⊢; omega
  · have e : ((h * 2 ^ s + l / 2 ^ (64 - s)) * 4294967296 + l * 2 ^ s % M64 / 4294967296) * 4294967296 + l * 2 ^ s % M64 % 4294967296 = (h * M64 + l) * 2 ^ s := by
      rw [Nat.add_mul (h * M64), Nat.mul_assoc h, Nat.mul_comm M64, ← Nat.mul_assoc, key]
      generalize h * 2 ^ s + l / 2 ^ (64 - s) = u
      generalize l * 2 ^ s % M64 = t
      unfold M64
      omega
    unfold trialQ trialR
    rw [halves (show 0 < y * 2 ^ s by omega), e, Nat.mul_div_mul_right _ _ hp]

set_option maxRecDepth 100000 in
set_option maxHeartbeats 1000000 in
theorem div64_high (h l y s : Nat) (hy : h < y) (hl : l < M64) (hyM : y < M64) (hh : 0 < h) (hs : s + Lib.bitLen y = 64) (w : World) :
    Calls Try.prog 96 #[.int .u64 h, .int .u64 l, .int .u64 y] w (RetQ ((h * M64 + l) / y) w) := by
  obtain ⟨Y, y1, y0, u, t, un1, un0, H⟩ := halves_of hy hl hyM hs
  have L := Lib.hid (lead64 y hyM)
  have hs' : 64 - (Lib.bitLen y : Int) = (s : Int) := by omega
  rw [hs'] at L
  rw [← H.eq]
  obtain ⟨⟨ht1, ht2⟩, hA, hB, hC, hD, hE, hF, hG, hu, eY, hy0l, hu1, hu0, _⟩ := H
  have hy0 : ((y : Int) == 0) = false := by simp; omega
  have hh0 : ((h : Int) == 0) = false := by simp; omega
  have hyle : decide ((y : Int) ≤ (h : Int)) = false := by simp; omega
  have hs64 : s ≤ 64 := by omega
  unfold M64 at hyM hl ht1 ht2
  have hy1p : 1 ≤ (y1 : Int) := by omega
  have hy1z : ((y1 : Int) == 0) = false := by simp; omega
  have hq1 : (u : Int) / (y1 : Int) = ((u / y1 : Nat) : Int) := by simp
  have E1 := Lib.hid (show y1 * (u / y1) + u % y1 = u from Nat.div_add_mod _ _)
  have R1 := Lib.hid (Nat.mod_lt u (show 0 < y1 by omega))
  have T := Lib.hid (trial_all (u := u) (v := un1) eY (by omega) hy0l hu hu1)
  have hqu : u / y1 ≤ u := Nat.div_le_self _ _
  have hwq : IntKind.u64.wrap ((u / y1 : Nat) : Int) = ((u / y1 : Nat) : Int) := wrap_nat _ (by unfold M64; omega)
  have S1 := Lib.hid T.out.start
  generalize u / y1 = q at E1 S1 hqu hwq hq1
  generalize u % y1 = r at E1 R1
  have hJ : IntKind.u64.wrap ((u : Int) - IntKind.u64.wrap ((q : Int) * (y1 : Int))) = (r : Int) := by
    have e := E1.out; rw [Nat.mul_comm] at e
    have e2 : ((q * y1 : Nat) : Int) + (r : Int) = (u : Int) := by omega
    rw [IntKind.wrap_u64, IntKind.wrap_u64, ← Int.natCast_mul]
    omega
  have T2 := Lib.hid (trial_all (u := trialR u un1 Y) (v := un0) eY (by omega) hy0l T.out.z_lt hu0)
  generalize trialQ u un1 Y = Q at *
  generalize trialR u un1 Y = z at *
  generalize trialQ z un0 Y = Q0 at *
  generalize trialR z un0 Y = z0 at *
  clear hs hs'
  go_enter Try.func96, Try.ntmps96
  go_wp2_with fail
  refine (L.out _).mono ?_
  rintro e w' ⟨rfl, rfl⟩
  go_upto_block 0 with fail
  clear hA hB hC hD hE hF hG hq1 hwq hJ hyle hh0
  have hQ := Lib.hid T.out.lt
  have hz : IntKind.u64.wrap (IntKind.u64.wrap (IntKind.u64.wrap ((u : Int) * 4294967296) + (un1 : Int)) - IntKind.u64.wrap ((Q : Int) * (Y : Int))) = (z : Int) := by
    have e := T.out.rest; have l := T.out.z_lt
    have e2 : ((Q * Y : Nat) : Int) + (z : Int) = (u : Int) * 4294967296 + (un1 : Int) := by omega
    simp only [IntKind.wrap_u64, ← Int.natCast_mul Q Y]
    generalize ((Q * Y : Nat) : Int) = P at *
    omega
  have Hz := Lib.hid hz; clear hz
  go_cut [15] (fun a wx => a = .int .u64 Q ∧ wx = w)
  case first =>
    clear Hz
    go_wp2_with fail
    go_loop [15, 16] (fun a b => ∃ q r : Nat, a = .int .u64 q ∧ b = .int .u64 r ∧ y1 * q + r = u ∧ Q ≤ q ∧ r < 4294967296) (fun a _ => (intOf a).toNat)
    case atStart => exact ⟨_, _, rfl, rfl, E1.out, S1.out, by have := R1.out; omega⟩
    case round =>
      clear E1 S1 R1
      obtain ⟨q, r, rfl, rfl, hq, hTq, hr⟩ := hrel
      have hqu : q ≤ u := by
        have := Nat.le_mul_of_pos_left q (show 0 < y1 by omega)
        omega
      have Hq := Lib.hid hq; clear hq
      have HT := Lib.hid hTq; clear hTq
      have j1 : (q : Int) ≤ 18446744073709551615 := by omega
      have j2 : (r : Int) < 4294967296 := by omega
      have j3 : (un1 : Int) < 4294967296 := by omega
      have j4 : (y1 : Int) < 4294967296 := by omega
      have j5 : (0 : Int) ≤ (y1 : Int) := by omega
      clear hqu
      rcases Nat.lt_or_ge q 4294967296 with hql | hqg
      · have hp64 : q * y0 < 18446744073709551616 := by
          have := Nat.mul_le_mul (show q ≤ 4294967295 by omega) (show y0 ≤ 4294967295 by omega)
          omega
        have hp : IntKind.u64.wrap ((q : Int) * (y0 : Int)) = ((q * y0 : Nat) : Int) := by
          rw [← Int.natCast_mul]; exact wrap_nat _ hp64
        obtain ⟨p0, hp0⟩ : ∃ p0, q * y0 = p0 := ⟨_, rfl⟩
        rw [hp0] at hp hp64
        have Hp := Lib.hid hp0; clear hp0
        have i1 : (q : Int) < 4294967296 := by omega
        clear hql hp64
        rcases Nat.lt_or_ge (4294967296 * r + un1) p0 with hlt | hge
        · obtain ⟨hT1, h1⟩ := T.out.down Hp.out Hq.out (.inr hlt)
          have Hst := Lib.hid (trial_step Hq.out h1)
          have HT1 := Lib.hid hT1; clear hT1
          have i2 : 4294967296 * (r : Int) + (un1 : Int) < (p0 : Int) := by omega
          have i4 : 1 ≤ (q : Int) := by omega
          clear hlt
          rcases Nat.lt_or_ge (r + y1) 4294967296 with hb | hb
          · have i5 : decide ((4294967296 : Int) ≤ (r : Int) + (y1 : Int)) = false := by simp; omega
            have Hb := Lib.hid hb; clear hb hr hu hu0 hu1 hy0l ht1 ht2 hl hyM
            go_wp2_with fail
            go_round
            case rel => exact ⟨q - 1, r + y1, by congr 1; omega, by congr 1, Hst.out, HT1.out, Hb.out⟩
            case measure => simp [intOf]; omega
          · have i5 : 4294967296 ≤ (r : Int) + (y1 : Int) := by omega
            have hd := Lib.hid (T.out.far Hst.out HT1.out hb)
            clear hb hr hu hu0 hu1 hy0l ht1 ht2 hl hyM
            go_wp2_with fail
            go_meet
            case rel => exact ⟨by rw [← hd.out]; congr 1; omega, rfl⟩
        · have hd := Lib.hid (T.out.done Hp.out Hq.out HT.out hge)
          obtain ⟨m, hm⟩ : ∃ m : Nat, 4294967296 * (r : Int) + (un1 : Int) = (m : Int) := ⟨4294967296 * r + un1, by omega⟩
          have i6 : (m : Int) ≤ 18446744073709551615 := by omega
          have i2 : decide (m < p0) = false := by simp; omega
          have i7 : decide ((4294967296 : Int) ≤ (q : Int)) = false := by simp; omega
          clear hge hr hu hu0 hu1 hy0l ht1 ht2 hl hyM
          go_wp2_with fail
          go_meet
          case rel => exact ⟨by rw [← hd.out], rfl⟩
      · obtain ⟨hT1, h1⟩ := T.out.down (rfl : q * y0 = q * y0) Hq.out (.inl hqg)
        have Hst := Lib.hid (trial_step Hq.out h1)
        have HT1 := Lib.hid hT1; clear hT1
        have i1 : 4294967296 ≤ (q : Int) := by omega
        have i4 : 1 ≤ (q : Int) := by omega
        clear hqg
        rcases Nat.lt_or_ge (r + y1) 4294967296 with hb | hb
        · have i5 : decide ((4294967296 : Int) ≤ (r : Int) + (y1 : Int)) = false := by simp; omega
          have Hb := Lib.hid hb; clear hb hr hu hu0 hu1 hy0l ht1 ht2 hl hyM
          go_wp2_with fail
          go_round
          case rel => exact ⟨q - 1, r + y1, by congr 1; omega, by congr 1, Hst.out, HT1.out, Hb.out⟩
          case measure => simp [intOf]; omega
        · have i5 : 4294967296 ≤ (r : Int) + (y1 : Int) := by omega
          have hd := Lib.hid (T.out.far Hst.out HT1.out hb)
          clear hb hr hu hu0 hu1 hy0l ht1 ht2 hl hyM
          go_wp2_with fail
          go_meet
          case rel => exact ⟨by rw [← hd.out]; congr 1; omega, rfl⟩
  case rest =>
    obtain ⟨rfl, rfl⟩ := hcut
    clear E1 S1 R1 hqu
    have hzl := T.out.z_lt
    have hQl := hQ.out
    clear hQ T
    have hz := Hz.out; clear Hz
    have hq1 : (z : Int) / (y1 : Int) = ((z / y1 : Nat) : Int) := by simp
    have E1 := Lib.hid (show y1 * (z / y1) + z % y1 = z from Nat.div_add_mod _ _)
    have R1 := Lib.hid (Nat.mod_lt z (show 0 < y1 by omega))
    have hqu : z / y1 ≤ z := Nat.div_le_self _ _
    have hwq : IntKind.u64.wrap ((z / y1 : Nat) : Int) = ((z / y1 : Nat) : Int) := wrap_nat _ (by unfold M64; omega)
    have S1 := Lib.hid T2.out.start
    generalize z / y1 = q at E1 S1 hqu hwq hq1
    generalize z % y1 = r at E1 R1
    have hJ : IntKind.u64.wrap ((z : Int) - IntKind.u64.wrap ((q : Int) * (y1 : Int))) = (r : Int) := by
      have e := E1.out; rw [Nat.mul_comm] at e
      have e2 : ((q * y1 : Nat) : Int) + (r : Int) = (z : Int) := by omega
      rw [IntKind.wrap_u64, IntKind.wrap_u64, ← Int.natCast_mul]
      omega
    go_upto_block 2 with fail
    clear hq1 hwq hJ hz
    go_cut [18] (fun a wx => a = .int .u64 Q0 ∧ wx = wc)
    case first =>
      go_wp2_with fail
      go_loop [18, 16] (fun a b => ∃ q r : Nat, a = .int .u64 q ∧ b = .int .u64 r ∧ y1 * q + r = z ∧ Q0 ≤ q ∧ r < 4294967296) (fun a _ => (intOf a).toNat)
      case atStart => exact ⟨_, _, rfl, rfl, E1.out, S1.out, by have := R1.out; omega⟩
      case round =>
        clear E1 S1 R1
        obtain ⟨q, r, rfl, rfl, hq, hTq, hr⟩ := hrel
        have hqu : q ≤ z := by
          have := Nat.le_mul_of_pos_left q (show 0 < y1 by omega)
          omega
        have Hq := Lib.hid hq; clear hq
        have HT := Lib.hid hTq; clear hTq
        have j1 : (q : Int) ≤ 18446744073709551615 := by omega
        have j2 : (r : Int) < 4294967296 := by omega
        have j3 : (un0 : Int) < 4294967296 := by omega
        have j4 : (y1 : Int) < 4294967296 := by omega
        have j5 : (0 : Int) ≤ (y1 : Int) := by omega
        clear hqu
        rcases Nat.lt_or_ge q 4294967296 with hql | hqg
        · have hp64 : q * y0 < 18446744073709551616 := by
            have := Nat.mul_le_mul (show q ≤ 4294967295 by omega) (show y0 ≤ 4294967295 by omega)
            omega
          have hp : IntKind.u64.wrap ((q : Int) * (y0 : Int)) = ((q * y0 : Nat) : Int) := by
            rw [← Int.natCast_mul]; exact wrap_nat _ hp64
          obtain ⟨p0, hp0⟩ : ∃ p0, q * y0 = p0 := ⟨_, rfl⟩
          rw [hp0] at hp hp64
          have Hp := Lib.hid hp0; clear hp0
          have i1 : (q : Int) < 4294967296 := by omega
          clear hql hp64
          rcases Nat.lt_or_ge (4294967296 * r + un0) p0 with hlt | hge
          · obtain ⟨hT1, h1⟩ := T2.out.down Hp.out Hq.out (.inr hlt)
            have Hst := Lib.hid (trial_step Hq.out h1)
            have HT1 := Lib.hid hT1; clear hT1
            have i2 : 4294967296 * (r : Int) + (un0 : Int) < (p0 : Int) := by omega
            have i4 : 1 ≤ (q : Int) := by omega
            clear hlt
            rcases Nat.lt_or_ge (r + y1) 4294967296 with hb | hb
            · have i5 : decide ((4294967296 : Int) ≤ (r : Int) + (y1 : Int)) = false := by simp; omega
              have Hb := Lib.hid hb; clear hb hr hu hu0 hu1 hy0l ht1 ht2 hl hyM hzl hQl
              go_wp2_with fail
              go_round
              case rel => exact ⟨q - 1, r + y1, by congr 1; omega, by congr 1, Hst.out, HT1.out, Hb.out⟩
              case measure => simp [intOf]; omega
            · have i5 : 4294967296 ≤ (r : Int) + (y1 : Int) := by omega
              have hd := Lib.hid (T2.out.far Hst.out HT1.out hb)
              clear hb hr hu hu0 hu1 hy0l ht1 ht2 hl hyM hzl hQl
              go_wp2_with fail
              go_meet
              case rel => exact ⟨by rw [← hd.out]; congr 1; omega, rfl⟩
          · have hd := Lib.hid (T2.out.done Hp.out Hq.out HT.out hge)
            obtain ⟨m, hm⟩ : ∃ m : Nat, 4294967296 * (r : Int) + (un0 : Int) = (m : Int) := ⟨4294967296 * r + un0, by omega⟩
            have i6 : (m : Int) ≤ 18446744073709551615 := by omega
            have i2 : decide (m < p0) = false := by simp; omega
            have i7 : decide ((4294967296 : Int) ≤ (q : Int)) = false := by simp; omega
            clear hge hr hu hu0 hu1 hy0l ht1 ht2 hl hyM hzl hQl
            go_wp2_with fail
            go_meet
            case rel => exact ⟨by rw [← hd.out], rfl⟩
        · obtain ⟨hT1, h1⟩ := T2.out.down (rfl : q * y0 = q * y0) Hq.out (.inl hqg)
          have Hst := Lib.hid (trial_step Hq.out h1)
          have HT1 := Lib.hid hT1; clear hT1
          have i1 : 4294967296 ≤ (q : Int) := by omega
          have i4 : 1 ≤ (q : Int) := by omega
          clear hqg
          rcases Nat.lt_or_ge (r + y1) 4294967296 with hb | hb
          · have i5 : decide ((4294967296 : Int) ≤ (r : Int) + (y1 : Int)) = false := by simp; omega
            have Hb := Lib.hid hb; clear hb hr hu hu0 hu1 hy0l ht1 ht2 hl hyM hzl hQl
            go_wp2_with fail
            go_round
            case rel => exact ⟨q - 1, r + y1, by congr 1; omega, by congr 1, Hst.out, HT1.out, Hb.out⟩
            case measure => simp [intOf]; omega
          · have i5 : 4294967296 ≤ (r : Int) + (y1 : Int) := by omega
            have hd := Lib.hid (T2.out.far Hst.out HT1.out hb)
            clear hb hr hu hu0 hu1 hy0l ht1 ht2 hl hyM hzl hQl
            go_wp2_with fail
            go_meet
            case rel => exact ⟨by rw [← hd.out]; congr 1; omega, rfl⟩
    case rest =>
      obtain ⟨rfl, rfl⟩ := hcut
      have hQ0 := T2.out.lt
      clear E1 S1 R1 T2
      go_wp2_with fail
      go_ret2
      exact ⟨_, by simp only [Int.natCast_add, Int.natCast_mul]; rfl, Below.refl _ _⟩
end Go.Proofs.Ythbfhfgmanafpaa
