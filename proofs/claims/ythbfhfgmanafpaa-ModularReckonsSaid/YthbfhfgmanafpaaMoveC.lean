/- The contract of word.Shl. -/
import Derived.Test.YthbfhfgmanafpaaMoveB
import Derived.Test.YthbfhfgmanafpaaDraw
namespace Go.Proofs.Ythbfhfgmanafpaa
open Go.RowKit
attribute [local go_sem ↓] Go.wp_at_zero Go.wp_at_succ

/-- A region begins where blocks are known, up to the operations that 'ex' names. -/
theorem Drawn.startEx (ex : Nat → Bool) {P : Program} {ops : Array Oper} {Q : Exit → Act → World → Prop} {w W : World} {B N : Nat} {L : List (Nat × Array Value × TypeId)} {id : Nat} {a : Act} (_ : Fr w B N L W) (hm : P.follows .mixedOrders = true)
    (h : Drawn P .any ops Q (Fr w B N L) ex ops.size (Array.replicate ops.size false) a W.drew) : (Code.region id ops true).wp P Q a W :=
  Drawn.start (Fr w B N L) ex hm h
theorem Fr.read3 {w W0 : World} {B N b1 b2 : Nat} {p0 : Nat × Array Value × TypeId} {v0 v1 v2 v3 u0 u1 u2 u3 : Value} {t1 t2 : TypeId} (_ : Fr w B N [p0, (b1, #[v0, v1, v2, v3], t1), (b2, #[u0, u1, u2, u3], t2)] W0) :
    ∀ W, Fr w B N [p0, (b1, #[v0, v1, v2, v3], t1), (b2, #[u0, u1, u2, u3], t2)] W →
      (W.cell? ⟨b1, 0, none⟩ = some v0 ∧ W.cell? ⟨b1, 1, none⟩ = some v1 ∧ W.cell? ⟨b1, 2, none⟩ = some v2 ∧ W.cell? ⟨b1, 3, none⟩ = some v3) ∧
      (W.cell? ⟨b2, 0, none⟩ = some u0 ∧ W.cell? ⟨b2, 1, none⟩ = some u1 ∧ W.cell? ⟨b2, 2, none⟩ = some u2 ∧ W.cell? ⟨b2, 3, none⟩ = some u3) :=
  fun _ h => ⟨h.c5 (.tail _ (.head _)), h.c5 (.tail _ (.tail _ (.head _)))⟩

set_option maxRecDepth 100000 in
set_option maxHeartbeats 2000000 in
theorem Shl_c {n a b3 b2 b1 b0 a3 a2 a1 a0 : Nat} (hn : Dig n b0 b1 b2 b3) (ha : Dig a a0 a1 a2 a3) (w : World) :
    Calls Try.prog 54 #[.agg #[.int .u64 b3, .int .u64 b2, .int .u64 b1, .int .u64 b0], .agg #[.int .u64 a3, .int .u64 a2, .int .u64 a1, .int .u64 a0]] w
      (RetW (fun s => s = a * 2 ^ (min n 256) % W256) w) := by
  have H := ((((Fx.start w).new #[.int .u64 b3, .int .u64 b2, .int .u64 b1, .int .u64 b0] 24).new #[.int .u64 a3, .int .u64 a2, .int .u64 a1, .int .u64 a0] 24).new #[.int .u64 0, .int .u64 0, .int .u64 0, .int .u64 0] 24).1
  have hP := Lib.hid (places_c hn)
  have hR := Lib.hid (raise_c ha (Nat.min_le_right n 256))
  clear hn ha
  unfold RetL at hR
  generalize a * 2 ^ (min n 256) % W256 = r at *
  generalize min n 256 = m at *
  go_enter Try.func54, Try.ntmps54
  go_wp2_with fail
  have H0 := H.drew
  have HS := Lib.hid H0.read3
  refine Drawn.startEx (fun i => i == 6) H (by kernel_rfl) ?_
  clear H
  refine Drawn.take 0 (some 5) (v := ?_) rfl rfl (by kernel_rfl) (by kernel_rfl) (by kernel_rfl) (by kernel_rfl) (by kernel_rfl) rfl (fun _ _ _ h => h) (Or.inl ⟨rfl, ?_⟩) H0 ?_
  rotate_left
  · intro W hW; have hW := HS.out W hW; go_simp; try with_reducible rfl
  simp only [put_list, List.set]
  refine Drawn.take 2 (some 7) (v := ?_) rfl rfl (by kernel_rfl) (by kernel_rfl) (by kernel_rfl) (by kernel_rfl) (by kernel_rfl) rfl (fun _ _ _ h => h) (Or.inl ⟨rfl, ?_⟩) H0 ?_
  rotate_left
  · intro W hW; have hW := HS.out W hW; go_simp; try with_reducible rfl
  simp only [put_list, List.set]
  refine Drawn.only 1 (by kernel_rfl) rfl rfl (fun K hK => ?_)
  go_simp
  refine (split_any _ _ _ _ _).mono ?_
  rintro e w1 ⟨rfl, hb⟩
  refine hK _ _ (fun _ _ => H0.call hb) ?_
  replace H0 := H0.call hb
  clear hK K hb
  refine Drawn.only 3 (by kernel_rfl) rfl rfl (fun K hK => ?_)
  go_simp
  refine (hP.out _).mono ?_
  rintro e w2 ⟨rfl, hb⟩
  refine hK _ _ (fun _ _ => H0.call hb) ?_
  replace H0 := H0.call hb
  clear hK K hb
  refine Drawn.only 4 (by kernel_rfl) rfl rfl (fun K hK => ?_)
  go_simp
  refine (hR.out _).mono ?_
  rintro e w3 ⟨s, s0, s1, s2, s3, rfl, hs, rfl, hb⟩
  refine hK _ _ (fun _ _ => H0.call hb) ?_
  replace H0 := H0.call hb
  have Hs := Lib.hid hs
  clear hK K hb hs
  refine Drawn.only 5 (by kernel_rfl) rfl rfl (fun K hK => ?_)
  go_simp
  refine (join_any _ _ _ _ _).mono ?_
  rintro e w4 ⟨rfl, hb⟩
  refine hK _ _ (fun _ _ => H0.call hb) ?_
  replace H0 := H0.call hb
  clear hK K hb
  have K0 := H0.know (_, _, _) List.mem_cons_self
  obtain ⟨⟨r0, r1, r2, r3⟩, g0, g1, g2, g3⟩ := cells4 K0.2
  replace K0 := Lib.hid K0
  refine Drawn.only 6 (by kernel_rfl) rfl rfl (fun K hK => ?_)
  go_simp
  refine hK _ _ (fun h => by simp at h) ?_
  clear hK K
  refine Drawn.done (by kernel_rfl) ?_ _
  go_wp2_with fail
  exact bodyPost_ret (results_cell_row Try.results54 _ _ _ _ _ _ _ rfl (heap_set4 K0.out.2 _ _ _ _) Try.underlying24 rfl (by kernel_rfl)) rfl
    ⟨_, _, _, _, _, rfl, Hs.out, rfl, below_set4 H0.below (by omega) _ _ _ _⟩

end Go.Proofs.Ythbfhfgmanafpaa
