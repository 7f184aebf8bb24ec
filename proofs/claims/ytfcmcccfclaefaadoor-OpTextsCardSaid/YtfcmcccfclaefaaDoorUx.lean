/- The reference's Jumps, Text. -/
import Derived.Test.YtfcmcccfclaefaaDoorUw
import Derived.Test.YtfcmcccfclaefaaDoorUt
namespace Go.Proofs.YtfcmcccfclaefaaDoor
open Go.RowKit Go.Maps Go.Shelf Mp

theorem insS_more {l : Nm} {i : Nat} {c : UInt8} (h : l[i]? = some c) : insS i (l.drop i) = (i, c :: (l.drop (i + 1)).take (pushN c.toNat)) :: insS (i + 1 + pushN c.toNat) (l.drop (i + 1 + pushN c.toNat)) := by
  rw [drop_at h, insS_cons, List.drop_drop]
theorem insS_end {l : Nm} {i : Nat} (h : l.length ≤ i) : insS i (l.drop i) = [] := by rw [List.drop_of_length_le h, insS_nil]
/-- Out, a slice variable of the call's own, with what was told so far. -/
structure Ot (et : TypeId) (W : World) (xs : List Value) (v : Value) (V : World) : Prop where
  row : V.ownsRow W.heap.size et 1 v xs.length xs
  below : Below W.heap.size W V
theorem Ot.call {et : TypeId} {W V V' : World} {xs : List Value} {v : Value} (h : Ot et W xs v V) (hb : Below V.heap.size V V') : Ot et W xs v V' :=
  ⟨own_keep h.row fun k hk => hb.block _ (World.ownsRow.lt h.row k hk).2, h.below.trans (hb.mono h.below.size)⟩
theorem Ot.more {et : TypeId} {W V V' : World} {xs : List Value} {v v' u : Value} (h : Ot et W xs v V) (h2 : V'.ownsRow W.heap.size et 1 v' (xs.length + 1) (xs ++ [u])) (h3 : V.grownBy V' v.ownBlock) : Ot et W (xs ++ [u]) v' V' :=
  ⟨by rw [List.length_append, List.length_singleton]; exact h2, h.below.grown h3 h.below.size fun k hk => (World.ownsRow.lt h.row k hk).1⟩
set_option maxRecDepth 100000 in
set_option maxHeartbeats 4000000 in
theorem rjumps_c (l : Nm) (hl : l.length ≤ 1000) (W : World) : Calls Tryd.prog 16 #[.string (str l)] W (RowR2 3 (rowI (destsOf (insS 0 l))) W) := by
  have hsz : (str l).size = l.length := str_size l
  obtain ⟨s, hs⟩ : ∃ s, s = str l := ⟨_, rfl⟩
  obtain ⟨N, hN⟩ : ∃ N, N = l.length := ⟨_, rfl⟩
  rw [← hs, ← hN] at hsz
  rw [← hs]
  have HS := Lib.hid (And.intro hs (And.intro hN hl))
  have hN2 : (N : Int) ≤ 1000 := by omega
  clear hs hN hl
  go_enter Tryd.func16, Tryd.ntmps16
  go_wp2_with fail
  go_loopw [3, 4] (fun ov iv wr => ∃ (i : Nat) (p : List (Nat × Nm)), i ≤ N + 40 ∧ iv = .int .i64 (i : Nat) ∧ p.length ≤ i ∧ p ++ insS i (l.drop i) = insS 0 l ∧ Ot 3 W (rowI (destsOf p)) ov wr) (fun _ iv _ => N - (intOf iv).toNat)
  case atStart => exact ⟨0, [], Nat.zero_le _, rfl, Nat.le_refl _, rfl, ⟨⟨rfl, Or.inl ⟨rfl, rfl⟩⟩, Below.refl _ _⟩⟩
  case round =>
    obtain ⟨i, p, hi, rfl, hp, he, ho⟩ := hrel
    by_cases hlt : i < N
    · have hlt2 : (i : Int) < (N : Int) := by omega
      have hlt3 : i < s.size := by omega
      obtain ⟨c, hcl⟩ : ∃ c, l[i]? = some c := ⟨_, List.getElem?_eq_getElem (by have := HS.out.2.1; omega)⟩
      have hq : ∀ (h : i < s.size), s[i]'h = c := by
        obtain ⟨rfl, _⟩ := HS.out
        intro h
        rw [str_at h]
        exact (List.getElem?_eq_some_iff.1 hcl).2
      have P := Lib.hid (fun V => rpush_calls c.toNat c.toNat_lt V)
      have hpl := pushN_le c.toNat
      rw [insS_more hcl] at he
      have he2 : (p ++ [(i, c :: (l.drop (i + 1)).take (pushN c.toNat))]) ++ insS (i + 1 + pushN c.toNat) (l.drop (i + 1 + pushN c.toNat)) = insS 0 l := by rw [List.append_assoc]; exact he
      have hds := destsOf_snoc p (i, c :: (l.drop (i + 1)).take (pushN c.toNat))
      have hpl2 : (p ++ [(i, c :: (l.drop (i + 1)).take (pushN c.toNat))]).length ≤ i + 1 + pushN c.toNat := by rw [List.length_append, List.length_singleton]; omega
      have hdl : (destsOf p).length < 1001 := by have := destsOf_len p; omega
      generalize pushN c.toNat = k at *
      generalize pushB c.toNat = kb at *
      generalize hp2 : p ++ [(i, c :: (l.drop (i + 1)).take k)] = p2 at *
      have HE := Lib.hid (And.intro he2 (And.intro hpl2 (show k ≤ 32 from hpl)))
      have hk : (k : Int) ≤ 32 := by omega
      have hrl : (rowI (destsOf p)).length = (destsOf p).length := by simp [rowI]
      by_cases hc : c = 91
      · have hc1 : (c.toNat : Int) = 91 := by rw [hc]; rfl
        have hc2 : ((91 : Int) == 91) = true := rfl
        replace P := P.out
        rw [hc1] at P
        replace P := Lib.hid P
        have hds2 : rowI (destsOf p2) = rowI (destsOf p) ++ [.int .i64 (i : Nat)] := by
          rw [hds, if_pos (by rw [hc]; rfl)]
          simp [rowI]
        have HO := Lib.hid (And.intro ho (And.intro hds2 (show (rowI (destsOf p)).length < 1001 by omega)))
        clear he he2 hpl2 hds hds2 hdl ho hcl hp2 hp hrl hc hpl
        generalize rowI (destsOf p) = ys at *
        obtain ⟨sa, sc, hv⟩ := own_any HO.out.1.row
        obtain ⟨n, hn⟩ : ∃ n, n = ys.length := ⟨_, rfl⟩
        rw [← hn] at hv
        subst hv
        have HN := Lib.hid hn
        have HA := Lib.hid (HO.out.1.call ((Below.refl wr.heap.size wr).alloc (Nat.le_refl _) (.cells #[.int .i64 (i : Nat)] 3)))
        clear hn
        go_wp2_with (first | (go_at_call 14; refine (P.out _).mono ?_; rintro e w1 ⟨rfl, rfl⟩) | (at_builtin; refine wpList_append_one (by rfl) _ _ 36 3 (by rfl) Tryd.underlying36 (.int .i64 0) 8 infoInt (by decide) (by decide) W.heap.size (.slice sa n sc) ys.length ys (by rfl) HA.out.row wr.heap.size (.int .i64 (i : Nat)) (by rfl) (by rfl) (heap_alloc_new _ _) HA.out.below.size (Nat.lt_trans HO.out.2.2 (by decide)) ?_; intro v2 V2 h2 h3 h4; have H2 := Lib.hid (HA.out.more h2 h3); clear h2 h3 h4))
        go_roundw
        case rel => exact ⟨i + 1 + k, p2, by have := HE.out.2.2; omega, by go_num, HE.out.2.1, HE.out.1, by rw [HO.out.2.1]; exact H2.out⟩
        case measure => simp [intOf]; omega
      · have hc1 : ¬ (c.toNat : Int) = 91 := fun e => hc (UInt8.toNat_inj.1 (show c.toNat = 91 by omega))
        have hc2 : ((c.toNat : Int) == 91) = false := by simpa using hc1
        have hds2 : rowI (destsOf p2) = rowI (destsOf p) := by
          rw [hds, if_neg (by simp [isDest, hc])]
        have HO := Lib.hid (And.intro ho hds2)
        clear he he2 hpl2 hds hds2 hdl ho hcl hp2 hp hrl hc hpl
        go_wp2_with (go_at_call 14; refine (P.out _).mono ?_; rintro e w1 ⟨rfl, rfl⟩)
        go_roundw
        case rel => exact ⟨i + 1 + k, p2, by have := HE.out.2.2; omega, by go_num, HE.out.2.1, HE.out.1, by rw [HO.out.2]; exact HO.out.1⟩
        case measure => simp [intOf]; omega
    · have hlt2 : ¬ (i : Int) < (N : Int) := by omega
      rw [insS_end (by have := HS.out.2.1; omega), List.append_nil] at he
      rw [he] at ho
      have HO := Lib.hid ho
      clear ho he hp
      go_wp2_with fail
      go_ret
      exact ⟨_, rfl, HO.out.row, HO.out.below⟩
end Go.Proofs.YtfcmcccfclaefaaDoor
