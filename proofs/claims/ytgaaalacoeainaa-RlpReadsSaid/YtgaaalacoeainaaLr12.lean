/- RlpReads: any bytes are an item, or none, as the reference says. -/
import Derived.Test.YtgaaalacoeainaaLr11
import Derived.Lib.ConvBytes
import Derived.StillTailTactics
namespace Go.Proofs.Ytgaaalacoeainaa
open Go.RowKit

/-- What is known amid the law: blocks of both kinds of items, and items, wherever they lie. -/
structure Kt (w : World) (L : List (Nat × Array Value × TypeId)) (xs : List (It × Value)) (W : World) : Prop where
  below : Below w.heap.size w W
  blk : ∀ p ∈ L, W.heap[p.1]? = some (.cells p.2.1 p.2.2 (0, 0))
  its : ∀ q ∈ xs, ItV (fun k => k < W.heap.size) q.1 q.2 W
theorem Kt.call {w W W' : World} {L : List (Nat × Array Value × TypeId)} {xs : List (It × Value)} (h : Kt w L xs W) (hb : Below W.heap.size W W') : Kt w L xs W' :=
  ⟨h.below.trans (hb.mono h.below.size), fun p hp => (hb.block _ (lt_of (h.blk p hp))).trans (h.blk p hp),
    fun q hq => ((h.its q hq).kept (W' := W') (fun k hk => hb.block k hk)).mono (fun _ hk => Nat.lt_of_lt_of_le hk hb.size)⟩
theorem Kt.new {w W W' : World} {L : List (Nat × Array Value × TypeId)} {xs : List (It × Value)} (h : Kt w L xs W) (hb : Below W.heap.size W W') {x : It} {v : Value} {S : Nat → Prop} (hv : ItV S x v W') (hS : ∀ k, S k → k < W'.heap.size) : Kt w L ((x, v) :: xs) W' :=
  ⟨(h.call hb).below, (h.call hb).blk, fun q hq => by
    rcases List.mem_cons.1 hq with rfl | hq
    · exact hv.mono hS
    · exact (h.call hb).its q hq⟩
theorem Kt.box {w W : World} {L : List (Nat × Array Value × TypeId)} {xs : List (It × Value)} (h : Kt w L xs W) (cs : Array Value) (t : TypeId) : Kt w ((W.heap.size, cs, t) :: L) xs (W.alloc (.cells cs t)) := by
  have hc := h.call (bel_al W (.cells cs t))
  refine ⟨hc.below, fun p hp => ?_, hc.its⟩
  rcases List.mem_cons.1 hp with rfl | hp
  · exact heap_alloc_new _ _
  · exact hc.blk p hp
theorem Kt.drew {w W : World} {L : List (Nat × Array Value × TypeId)} {xs : List (It × Value)} (h : Kt w L xs W) : Kt w L xs W.drew := h.call (Below.refl _ _).drew
theorem Kt.it {w W : World} {L : List (Nat × Array Value × TypeId)} {xs : List (It × Value)} (h : Kt w L xs W) {x : It} {v : Value} (hm : (x, v) ∈ xs) : ItV (fun k => k < W.heap.size) x v W := h.its _ hm
theorem Kt.start {w W : World} (h : Below w.heap.size w W) : Kt w [] [] W := ⟨h, by simp, by simp⟩
theorem Kt.cells {w W : World} {L : List (Nat × Array Value × TypeId)} {xs : List (It × Value)} (h : Kt w L xs W) {b : Nat} {v0 v1 v2 : Value} {t : TypeId} (hm : (b, #[v0, v1, v2], t) ∈ L) :
    W.cell? ⟨b, 0, none⟩ = some v0 ∧ W.cell? ⟨b, 1, none⟩ = some v1 ∧ W.cell? ⟨b, 2, none⟩ = some v2 := (cells3 (h.blk _ hm)).1
/-- A text as a slice of bytes. -/
theorem conv_out (l : List UInt8) (w : World) : ∃ cap W0, (convert 9 42 (.string (str l))).run Try.prog w = .ok (.slice (some ⟨w.heap.size, 0, none⟩) l.length cap) W0 ∧ Below w.heap.size w W0 ∧ l.length ≤ cap ∧
    ∀ j (hj : j < l.length), W0.cell? ⟨w.heap.size, j, none⟩ = some (.int .u8 ((l[j]'hj).toNat : Nat)) ∧ W0.frozen? ⟨w.heap.size, j, none⟩ = false := by
  have hge := grownCap_ge w (str l).size 0 5
  have hnew := Lib.bytesWorld_at_new w 5 (str l)
  have hsz : (Lib.bytesCells w 5 (str l)).size = grownCap w (str l).size 0 5 := by
    have hd : (str l).data.size = (str l).size := rfl
    simp [Lib.bytesCells, hd]; omega
  have hrun := Lib.run_convert_string_bytes (P := Try.prog) w 9 42 5 (str l) Try.underlying9 Try.underlying42 Try.underlying5
  have hl := str_size l
  rw [hl] at hrun hge hsz
  refine ⟨_, _, hrun, ⟨rfl, rfl, rfl, by rw [Lib.bytesWorld_size]; omega, fun k hk => Lib.bytesWorld_at_old w _ _ k hk⟩, hge, fun j hj => ⟨?_, ?_⟩⟩
  · rw [Lib.bytesWorld_cell _ _ _ _ (by rw [hl]; exact hj)]
    simp [str, List.getD, hj]
  · simp [World.frozen?, hnew, hsz]
    omega
set_option maxRecDepth 100000 in
set_option maxHeartbeats 4000000 in
theorem reads_other (s : ByteArray) (v2 : Value) (at3 : Int) (by4 : Nat) (more : ByteArray) (w : World) :
    Calls Try.prog 4 #[.string s, .bool false, v2, .int .i64 at3, .int .u8 by4, .string more] w fun e w' => e = .returned (.bool true) ∧ Below w.heap.size w w' := by
  obtain ⟨y, hy⟩ : ∃ y, str y = s := ⟨s.data.toList, str_list s⟩
  have HD1 := Lib.hid (fun V => show Calls Try.prog 21 #[.string s] V fun e w' => ∃ v, e = .returned (.tuple #[v, .int .i64 ((decV y).2 : Nat)]) ∧ ItV (fun k => V.heap.size ≤ k ∧ k < w'.heap.size) (decV y).1 v w' ∧ Below V.heap.size V w' from hy ▸ decode_n y V)
  have HD2 := Lib.hid (fun V => show Calls Try.prog 22 #[.string s] V fun e w' => ∃ v, e = .returned (.tuple #[v, .int .i64 ((decV y).2 : Nat)]) ∧ ItV (fun k => V.heap.size ≤ k ∧ k < w'.heap.size) (decV y).1 v w' ∧ Below V.heap.size V w' from hy ▸ rdecode_n y V)
  have hxe := decV_enc y
  generalize (decV y).2 = ne at *
  generalize (decV y).1 = x at *
  have hevs := x.evs_len
  have hsho := x.sho_len
  have HS1 := Lib.hid (fun (V : World) {v : Value} (hv : ItV (fun k => k < V.heap.size) x v V) => show_c _ x v V (fun k hk => hk) hv (by omega) (by omega))
  have HS2 := Lib.hid (fun (V : World) {v : Value} (hv : ItV (fun k => k < V.heap.size) x v V) => rshow_c x (by omega) _ v V (fun k hk => hk) hv)
  generalize str x.sho = sho at *
  clear hxe hevs hsho hy
  go_enter Try.func4, Try.ntmps4
  go_wp2_with fail
  go_at_call 10
  refine (examples_c _).mono ?_
  rintro e w0 ⟨rfl, h1⟩
  have HW := Lib.hid h1
  clear h1
  go_wp2_with fail
  go_at_call 21
  refine (HD1.out _).mono ?_
  rintro e w1 ⟨v, rfl, hv, hb⟩
  obtain ⟨b1, t1, i1, n1, c1, rfl⟩ := hv.form
  have K1 := Lib.hid (((Kt.start HW.out).new hb hv (fun k hk => hk.2)).box #[.bool b1, .string t1, .slice i1 n1 c1] 27)
  clear hb hv HW
  go_wp2_with fail
  generalize hg1 : w1.heap.size = g1 at *
  generalize w1.alloc (.cells #[.bool b1, .string t1, .slice i1 n1 c1] 27) = W1 at *
  go_at_call 22
  refine (HD2.out _).mono ?_
  rintro e w2 ⟨v, rfl, hv, hb⟩
  obtain ⟨b2, t2, i2, n2, c2, rfl⟩ := hv.form
  have K2 := Lib.hid (((K1.out.new hb hv (fun k hk => hk.2)).box #[.bool b2, .string t2, .slice i2 n2 c2] 35).drew)
  clear hb hv K1
  go_wp2_with fail
  generalize hg2 : w2.heap.size = g2 at *
  have H0 := K2.out
  have HS := Lib.hid (fun (V : World) (hV : Kt w [(g2, #[.bool b2, .string t2, .slice i2 n2 c2], 35), (g1, #[.bool b1, .string t1, .slice i1 n1 c1], 27)] [(x, .agg #[.bool b2, .string t2, .slice i2 n2 c2]), (x, .agg #[.bool b1, .string t1, .slice i1 n1 c1])] V) => And.intro (hV.cells (.tail _ (.head _))) (hV.cells (.head _)))
  refine Drawn.start (fun V => Kt w [(g2, #[.bool b2, .string t2, .slice i2 n2 c2], 35), (g1, #[.bool b1, .string t1, .slice i1 n1 c1], 27)] [(x, .agg #[.bool b2, .string t2, .slice i2 n2 c2]), (x, .agg #[.bool b1, .string t1, .slice i1 n1 c1])] V) (fun _ => false) (by kernel_rfl) ?_
  refine Drawn.take 0 (some 72) (v := ?_) rfl rfl (by kernel_rfl) (by kernel_rfl) (by kernel_rfl) (by kernel_rfl) (by kernel_rfl) rfl (fun _ _ _ h => h) (Or.inl ⟨rfl, ?_⟩) H0 ?_
  rotate_left
  · intro W hW; have hW := HS.out W hW; go_simp; try with_reducible rfl
  simp only [put_list, List.set]
  refine Drawn.take 1 (some 73) (v := ?_) rfl rfl (by kernel_rfl) (by kernel_rfl) (by kernel_rfl) (by kernel_rfl) (by kernel_rfl) rfl (fun _ _ _ h => h) (Or.inl ⟨rfl, ?_⟩) H0 ?_
  rotate_left
  · intro W hW; have hW := HS.out W hW; go_simp; try with_reducible rfl
  simp only [put_list, List.set]
  refine Drawn.take 2 (some 74) (v := ?_) rfl rfl (by kernel_rfl) (by kernel_rfl) (by kernel_rfl) (by kernel_rfl) (by kernel_rfl) rfl (fun _ _ _ h => h) (Or.inl ⟨rfl, ?_⟩) H0 ?_
  rotate_left
  · intro W hW; have hW := HS.out W hW; go_simp; try with_reducible rfl
  simp only [put_list, List.set]
  refine Drawn.take 3 (some 75) (v := ?_) rfl rfl (by kernel_rfl) (by kernel_rfl) (by kernel_rfl) (by kernel_rfl) (by kernel_rfl) rfl (fun _ _ _ h => h) (Or.inl ⟨rfl, ?_⟩) H0 ?_
  rotate_left
  · intro W hW; have hW := HS.out W hW; go_simp; try with_reducible rfl
  simp only [put_list, List.set]
  refine Drawn.take 4 (some 76) (v := ?_) rfl rfl (by kernel_rfl) (by kernel_rfl) (by kernel_rfl) (by kernel_rfl) (by kernel_rfl) rfl (fun _ _ _ h => h) (Or.inl ⟨rfl, ?_⟩) H0 ?_
  rotate_left
  · intro W hW; have hW := HS.out W hW; go_simp; try with_reducible rfl
  simp only [put_list, List.set]
  refine Drawn.take 5 (some 77) (v := ?_) rfl rfl (by kernel_rfl) (by kernel_rfl) (by kernel_rfl) (by kernel_rfl) (by kernel_rfl) rfl (fun _ _ _ h => h) (Or.inl ⟨rfl, ?_⟩) H0 ?_
  rotate_left
  · intro W hW; have hW := HS.out W hW; go_simp; try with_reducible rfl
  simp only [put_list, List.set]
  refine Drawn.take 6 (some 78) (v := ?_) rfl rfl (by kernel_rfl) (by kernel_rfl) (by kernel_rfl) (by kernel_rfl) (by kernel_rfl) rfl (fun _ _ _ h => h) (Or.inl ⟨rfl, ?_⟩) H0 ?_
  rotate_left
  · intro W hW; have hW := HS.out W hW; go_simp; try with_reducible rfl
  simp only [put_list, List.set]
  refine Drawn.take 7 (some 79) (v := ?_) rfl rfl (by kernel_rfl) (by kernel_rfl) (by kernel_rfl) (by kernel_rfl) (by kernel_rfl) rfl (fun _ _ _ h => h) (Or.inl ⟨rfl, ?_⟩) H0 ?_
  rotate_left
  · intro W hW; have hW := HS.out W hW; go_simp; try with_reducible rfl
  simp only [put_list, List.set]
  refine Drawn.take 9 (some 81) (v := ?_) rfl rfl (by kernel_rfl) (by kernel_rfl) (by kernel_rfl) (by kernel_rfl) (by kernel_rfl) rfl (fun _ _ _ h => h) (Or.inl ⟨rfl, ?_⟩) H0 ?_
  rotate_left
  · intro W hW; have hW := HS.out W hW; go_simp; try with_reducible rfl
  simp only [put_list, List.set]
  refine Drawn.only 8 (by kernel_rfl) rfl rfl (fun K hK => ?_)
  go_simp
  refine (HS1.out _ (H0.it (.tail _ (.head _)))).mono ?_
  rintro e w9 ⟨rfl, hb⟩
  refine hK _ _ (fun _ _ => H0.call hb) ?_
  replace H0 := H0.call hb
  clear hK K hb
  try simp only [put_list, List.set]
  refine Drawn.only 10 (by kernel_rfl) rfl rfl (fun K hK => ?_)
  go_simp
  refine (HS2.out _ (H0.it (.head _))).mono ?_
  rintro e w9 ⟨rfl, hb⟩
  refine hK _ _ (fun _ _ => H0.call hb) ?_
  replace H0 := H0.call hb
  clear hK K hb
  try simp only [put_list, List.set]
  refine Drawn.take 11 (some 83) (v := ?_) rfl rfl (by kernel_rfl) (by kernel_rfl) (by kernel_rfl) (by kernel_rfl) (by kernel_rfl) rfl (fun _ _ _ h => h) (Or.inl ⟨rfl, ?_⟩) H0 ?_
  rotate_left
  · intro W hW; have hW := HS.out W hW; go_simp; try with_reducible rfl
  simp only [put_list, List.set]
  refine Drawn.take 12 (some 84) (v := ?_) rfl rfl (by kernel_rfl) (by kernel_rfl) (by kernel_rfl) (by kernel_rfl) (by kernel_rfl) rfl (fun _ _ _ h => h) (Or.inl ⟨rfl, ?_⟩) H0 ?_
  rotate_left
  · intro W hW; have hW := HS.out W hW; go_simp; try with_reducible rfl
  simp only [put_list, List.set]
  refine Drawn.take 13 (some 12) (v := ?_) rfl rfl (by kernel_rfl) (by kernel_rfl) (by kernel_rfl) (by kernel_rfl) (by kernel_rfl) rfl (fun _ _ _ h => h) (Or.inl ⟨rfl, ?_⟩) H0 ?_
  rotate_left
  · intro W hW; have hW := HS.out W hW; go_simp; try with_reducible rfl
  simp only [put_list, List.set]
  refine Drawn.done (by kernel_rfl) ?_ _
  go_wp2_with fail
  go_ret
  exact ⟨rfl, H0.below⟩
set_option maxRecDepth 100000 in
set_option maxHeartbeats 4000000 in
theorem reads_own {pa : Option Addr} {pc : Nat} {l : List (Nat × List UInt8)} (s : ByteArray) (at3 : Int) (hat : -9223372036854775808 ≤ at3 ∧ at3 ≤ 9223372036854775807) (by4 : Nat) (hby : by4 < 256) (more : ByteArray) (hmore : more.size ≤ 140737488351232) (w : World) (hP : Parts w pa pc l) :
    Calls Try.prog 4 #[.string s, .bool true, .slice pa l.length pc, .int .i64 at3, .int .u8 by4, .string more] w fun e w' => e = .returned (.bool true) ∧ Below w.heap.size w w' := by
  obtain ⟨l6, hl6⟩ : ∃ l6, l6 = l.take 60 := ⟨_, rfl⟩
  obtain ⟨n, hn⟩ : ∃ n, n = l.length := ⟨_, rfl⟩
  have hl60 : l6.length ≤ 60 := by rw [hl6, List.length_take]; omega
  obtain ⟨q, hq⟩ : ∃ q, q = (madeP 61 l6).1 := ⟨_, rfl⟩
  have henc : q.enc.length ≤ 18600 := by rw [hq]; exact madeP_enc 61 l6 hl60
  have HQ := Lib.hid (And.intro henc q.enc_pos)
  have HP := Lib.hid hP
  have HN := Lib.hid (And.intro hn (And.intro hl6 (And.intro hq hl60)))
  have HM0 := Lib.hid hmore
  have HBY := Lib.hid hby
  have HAT := Lib.hid hat
  rw [← hn]
  clear hP hl60 henc hn hl6 hq hmore hat hby
  go_enter Try.func4, Try.ntmps4
  go_wp2_with fail
  go_at_call 10
  refine (examples_c _).mono ?_
  rintro e w1 ⟨rfl, h1⟩
  have K1 := Lib.hid ((Kn.start w).call h1)
  obtain ⟨a6, hsl, hp6⟩ := (HP.out.later h1).cut
  rw [← HN.out.1, ← HN.out.2.1] at hsl
  rw [← HN.out.2.1] at hp6
  have HM := Lib.hid (made_any hp6 HN.out.2.2.2)
  clear h1 hp6
  generalize l6.length = m6 at *
  go_wp2_with fail
  go_at_call 11
  refine HM.out.mono ?_
  rintro e w2 ⟨v, rfl, hv, hb⟩
  rw [← HN.out.2.2.1] at hv
  obtain ⟨b6, t6, i6, n6, c6, rfl⟩ := hv.form
  have K2 := Lib.hid ((K1.out.new hb hv (fun k hk => hk.2)).box #[.bool b6, .string t6, .slice i6 n6 c6])
  have hsz2 := alloc_size w2 (.cells #[.bool b6, .string t6, .slice i6 n6 c6] 27)
  clear K1 HM hb hv hsl
  go_wp2_with fail
  generalize w2.alloc (.cells #[.bool b6, .string t6, .slice i6 n6 c6] 27) = W2 at *
  generalize w2.heap.size = g6 at *
  clear hsz2
  go_at_call 14
  refine (ref_c q (by have := HQ.out; omega) _ _ _ (fun k hk => hk) (K2.out.it (List.mem_singleton.2 rfl))).mono ?_
  rintro e w3 ⟨u3, rfl, hv, hb⟩
  have K3 := Lib.hid (K2.out.call hb)
  have HV3 := Lib.hid (hv.mono (T := fun k => k < w3.heap.size) (fun _ hk => hk.2))
  clear hb hv K2
  go_wp2_with fail
  go_at_call 16
  refine (renc_c q (by have := HQ.out; omega) _ _ _ (fun k hk => hk) HV3.out).mono ?_
  rintro e w4 ⟨rfl, hb⟩
  have HB4 := Lib.hid (K3.out.call hb).below
  clear hb K3 HV3
  obtain ⟨cap, W0, hcv, hb0, hcap, hcell⟩ := conv_out q.enc w4
  have HB0 := Lib.hid (HB4.out.trans (hb0.mono HB4.out.size))
  have HC0 := Lib.hid hcell
  have HGG := Lib.hid HB4.out.size
  obtain ⟨L, hL⟩ : ∃ L, L = q.enc.length := ⟨_, rfl⟩
  rw [← hL] at hcv
  have HL := Lib.hid hL
  clear hb0 hcell hcap hL HB4
  have hLb : 0 < L ∧ L ≤ 18600 := by have := HQ.out; have := HL.out; omega
  generalize hts : str q.enc = ts at *
  clear hts
  generalize hgg : w4.heap.size = gg at *
  by_cases hneg : at3 < 0
  · obtain ⟨z, hz⟩ : ∃ z : Nat, -(at3 + 1) = (z : Int) := ⟨(-(at3 + 1)).toNat, by omega⟩
    have hz1 : IntKind.i64.wrap (at3 + 1) = at3 + 1 := IntWalk.i64_in _ (by have := HAT.out; omega)
    have hz3 : wrap64 (z : Int) = (z : Int) := IntWalk.wrap64_in _ (by have := HAT.out; omega)
    have hz2 : IntKind.i64.wrap (-(at3 + 1)) = (z : Int) := by rw [hz]; exact IntWalk.i64_in _ (by have := HAT.out; omega)
    obtain ⟨p, hp⟩ : ∃ p, p = z % L := ⟨_, rfl⟩
    have hpl : p < L := by rw [hp]; exact Nat.mod_lt _ hLb.1
    have hrem : (z : Int) % (L : Int) = (p : Int) := by rw [hp]; simp
    have hi0 : (0 : Int) ≤ (p : Int) ∧ (p : Int) < (L : Int) := by omega
    have hL0 : ¬ L = 0 := by omega
    have htm : (z : Int).tmod (L : Int) = (p : Int) := by rw [IntWalk.rem_in _ _ (by omega), hrem]
    have hpq : p < q.enc.length := by have := HL.out; omega
    obtain ⟨c0, f0⟩ := HC0.out p hpq
    obtain ⟨x0, hx0, hx1⟩ : ∃ x0 : Nat, x0 = (q.enc[p]'hpq).toNat ∧ x0 < 256 := ⟨_, rfl, UInt8.toNat_lt _⟩
    have hxor := xor8 hx1 HBY.out
    have hlt8 : x0 ^^^ by4 < 256 := Nat.xor_lt_two_pow (n := 8) hx1 HBY.out
    rw [← hx0] at c0
    generalize x0 ^^^ by4 = x8 at *
    obtain ⟨l8, hl8⟩ : ∃ l8, l8 = q.enc.set p (UInt8.ofNat x8) := ⟨_, rfl⟩
    have hl8n : l8.length = L := by rw [hl8, List.length_set, HL.out]
    have hcv2 : (convert 42 9 (.slice (some ⟨gg, 0, none⟩) L cap)).run Try.prog (W0.setCell ⟨gg, p, none⟩ (.int .u8 (x8 : Nat))).drew = .ok (.string (str l8)) (W0.setCell ⟨gg, p, none⟩ (.int .u8 (x8 : Nat))).drew := by
      rw [← hl8n]
      refine run_convert_bytes_back _ 42 9 5 ⟨gg, 0, none⟩ cap l8 Try.underlying42 Try.underlying5 Try.underlying9 (fun j hj => ?_)
      have e : (⟨gg, 0, none⟩ : Addr).add j = ⟨gg, j, none⟩ := by unfold Addr.add; split <;> simp_all
      have hj2 : j < q.enc.length := by rw [hl8, List.length_set] at hj; exact hj
      show (W0.setCell ⟨gg, p, none⟩ (.int .u8 (x8 : Nat))).cell? ((⟨gg, 0, none⟩ : Addr).add j) = _
      rw [e]
      by_cases hjp : j = p
      · subst hjp
        rw [World.cell?_setCell_same' _ _ _ (by rw [c0]; rfl)]
        simp only [hl8, List.getElem_set_self, b8 hlt8]
      · refine (World.cell?_setCell_other _ _ _ _ (fun e => hjp (by injection e with _ e2; exact e2.symm))).trans ?_
        rw [(HC0.out j hj2).1]
        simp only [hl8, List.getElem_set_ne (Ne.symm hjp)]
    obtain ⟨y, hy⟩ : ∃ y, str y = str l8 ++ more := ⟨l8 ++ more.data.toList, by rw [← str_append, str_list]⟩
    have hsum : ¬ 9223372036854775807 < (str l8).size + more.size := by have := HM0.out; rw [str_size, hl8n]; omega
    have HD1 := Lib.hid (fun V => show Calls Try.prog 21 #[.string (str l8 ++ more)] V fun e w' => ∃ v, e = .returned (.tuple #[v, .int .i64 ((decV y).2 : Nat)]) ∧ ItV (fun k => V.heap.size ≤ k ∧ k < w'.heap.size) (decV y).1 v w' ∧ Below V.heap.size V w' from hy ▸ decode_n y V)
    have HD2 := Lib.hid (fun V => show Calls Try.prog 22 #[.string (str l8 ++ more)] V fun e w' => ∃ v, e = .returned (.tuple #[v, .int .i64 ((decV y).2 : Nat)]) ∧ ItV (fun k => V.heap.size ≤ k ∧ k < w'.heap.size) (decV y).1 v w' ∧ Below V.heap.size V w' from hy ▸ rdecode_n y V)
    have hxe := decV_enc y
    generalize (decV y).2 = ne at *
    generalize (decV y).1 = x at *
    have hevs := x.evs_len
    have hsho := x.sho_len
    have HS1 := Lib.hid (fun (V : World) {v : Value} (hv : ItV (fun k => k < V.heap.size) x v V) => show_c _ x v V (fun k hk => hk) hv (by omega) (by omega))
    have HS2 := Lib.hid (fun (V : World) {v : Value} (hv : ItV (fun k => k < V.heap.size) x v V) => rshow_c x (by omega) _ v V (fun k hk => hk) hv)
    generalize str x.sho = sho at *
    clear hxe hevs hsho hy
    have HW := Lib.hid (((HB0.out.setCell (p := ⟨gg, p, none⟩) HGG.out (.int .u8 (x8 : Nat))).drew))
    clear hp hx0 hpl hlt8 hl8 hl8n hpq HC0 HM0 HBY HAT HQ HP HN HL HGG HB0
    generalize str l8 = s8 at *
    generalize hsy : s8 ++ more = sy at *
    go_wp2_with fail
    go_still_tail 15, (by kernel_rfl)
    go_wp2_with fail
    go_at_call 21
    refine (HD1.out _).mono ?_
    rintro e w1 ⟨v, rfl, hv, hb⟩
    obtain ⟨b1, t1, i1, n1, c1, rfl⟩ := hv.form
    have K1 := Lib.hid (((Kt.start HW.out).new hb hv (fun k hk => hk.2)).box #[.bool b1, .string t1, .slice i1 n1 c1] 27)
    clear hb hv HW
    go_wp2_with fail
    generalize hg1 : w1.heap.size = g1 at *
    generalize w1.alloc (.cells #[.bool b1, .string t1, .slice i1 n1 c1] 27) = W1 at *
    go_at_call 22
    refine (HD2.out _).mono ?_
    rintro e w2 ⟨v, rfl, hv, hb⟩
    obtain ⟨b2, t2, i2, n2, c2, rfl⟩ := hv.form
    have K2 := Lib.hid (((K1.out.new hb hv (fun k hk => hk.2)).box #[.bool b2, .string t2, .slice i2 n2 c2] 35).drew)
    clear hb hv K1
    go_wp2_with fail
    generalize hg2 : w2.heap.size = g2 at *
    have H0 := K2.out
    have HS := Lib.hid (fun (V : World) (hV : Kt w [(g2, #[.bool b2, .string t2, .slice i2 n2 c2], 35), (g1, #[.bool b1, .string t1, .slice i1 n1 c1], 27)] [(x, .agg #[.bool b2, .string t2, .slice i2 n2 c2]), (x, .agg #[.bool b1, .string t1, .slice i1 n1 c1])] V) => And.intro (hV.cells (.tail _ (.head _))) (hV.cells (.head _)))
    refine Drawn.start (fun V => Kt w [(g2, #[.bool b2, .string t2, .slice i2 n2 c2], 35), (g1, #[.bool b1, .string t1, .slice i1 n1 c1], 27)] [(x, .agg #[.bool b2, .string t2, .slice i2 n2 c2]), (x, .agg #[.bool b1, .string t1, .slice i1 n1 c1])] V) (fun _ => false) (by kernel_rfl) ?_
    refine Drawn.take 0 (some 72) (v := ?_) rfl rfl (by kernel_rfl) (by kernel_rfl) (by kernel_rfl) (by kernel_rfl) (by kernel_rfl) rfl (fun _ _ _ h => h) (Or.inl ⟨rfl, ?_⟩) H0 ?_
    rotate_left
    · intro W hW; have hW := HS.out W hW; go_simp; try with_reducible rfl
    simp only [put_list, List.set]
    refine Drawn.take 1 (some 73) (v := ?_) rfl rfl (by kernel_rfl) (by kernel_rfl) (by kernel_rfl) (by kernel_rfl) (by kernel_rfl) rfl (fun _ _ _ h => h) (Or.inl ⟨rfl, ?_⟩) H0 ?_
    rotate_left
    · intro W hW; have hW := HS.out W hW; go_simp; try with_reducible rfl
    simp only [put_list, List.set]
    refine Drawn.take 2 (some 74) (v := ?_) rfl rfl (by kernel_rfl) (by kernel_rfl) (by kernel_rfl) (by kernel_rfl) (by kernel_rfl) rfl (fun _ _ _ h => h) (Or.inl ⟨rfl, ?_⟩) H0 ?_
    rotate_left
    · intro W hW; have hW := HS.out W hW; go_simp; try with_reducible rfl
    simp only [put_list, List.set]
    refine Drawn.take 3 (some 75) (v := ?_) rfl rfl (by kernel_rfl) (by kernel_rfl) (by kernel_rfl) (by kernel_rfl) (by kernel_rfl) rfl (fun _ _ _ h => h) (Or.inl ⟨rfl, ?_⟩) H0 ?_
    rotate_left
    · intro W hW; have hW := HS.out W hW; go_simp; try with_reducible rfl
    simp only [put_list, List.set]
    refine Drawn.take 4 (some 76) (v := ?_) rfl rfl (by kernel_rfl) (by kernel_rfl) (by kernel_rfl) (by kernel_rfl) (by kernel_rfl) rfl (fun _ _ _ h => h) (Or.inl ⟨rfl, ?_⟩) H0 ?_
    rotate_left
    · intro W hW; have hW := HS.out W hW; go_simp; try with_reducible rfl
    simp only [put_list, List.set]
    refine Drawn.take 5 (some 77) (v := ?_) rfl rfl (by kernel_rfl) (by kernel_rfl) (by kernel_rfl) (by kernel_rfl) (by kernel_rfl) rfl (fun _ _ _ h => h) (Or.inl ⟨rfl, ?_⟩) H0 ?_
    rotate_left
    · intro W hW; have hW := HS.out W hW; go_simp; try with_reducible rfl
    simp only [put_list, List.set]
    refine Drawn.take 6 (some 78) (v := ?_) rfl rfl (by kernel_rfl) (by kernel_rfl) (by kernel_rfl) (by kernel_rfl) (by kernel_rfl) rfl (fun _ _ _ h => h) (Or.inl ⟨rfl, ?_⟩) H0 ?_
    rotate_left
    · intro W hW; have hW := HS.out W hW; go_simp; try with_reducible rfl
    simp only [put_list, List.set]
    refine Drawn.take 7 (some 79) (v := ?_) rfl rfl (by kernel_rfl) (by kernel_rfl) (by kernel_rfl) (by kernel_rfl) (by kernel_rfl) rfl (fun _ _ _ h => h) (Or.inl ⟨rfl, ?_⟩) H0 ?_
    rotate_left
    · intro W hW; have hW := HS.out W hW; go_simp; try with_reducible rfl
    simp only [put_list, List.set]
    refine Drawn.take 9 (some 81) (v := ?_) rfl rfl (by kernel_rfl) (by kernel_rfl) (by kernel_rfl) (by kernel_rfl) (by kernel_rfl) rfl (fun _ _ _ h => h) (Or.inl ⟨rfl, ?_⟩) H0 ?_
    rotate_left
    · intro W hW; have hW := HS.out W hW; go_simp; try with_reducible rfl
    simp only [put_list, List.set]
    refine Drawn.only 8 (by kernel_rfl) rfl rfl (fun K hK => ?_)
    go_simp
    refine (HS1.out _ (H0.it (.tail _ (.head _)))).mono ?_
    rintro e w9 ⟨rfl, hb⟩
    refine hK _ _ (fun _ _ => H0.call hb) ?_
    replace H0 := H0.call hb
    clear hK K hb
    try simp only [put_list, List.set]
    refine Drawn.only 10 (by kernel_rfl) rfl rfl (fun K hK => ?_)
    go_simp
    refine (HS2.out _ (H0.it (.head _))).mono ?_
    rintro e w9 ⟨rfl, hb⟩
    refine hK _ _ (fun _ _ => H0.call hb) ?_
    replace H0 := H0.call hb
    clear hK K hb
    try simp only [put_list, List.set]
    refine Drawn.take 11 (some 83) (v := ?_) rfl rfl (by kernel_rfl) (by kernel_rfl) (by kernel_rfl) (by kernel_rfl) (by kernel_rfl) rfl (fun _ _ _ h => h) (Or.inl ⟨rfl, ?_⟩) H0 ?_
    rotate_left
    · intro W hW; have hW := HS.out W hW; go_simp; try with_reducible rfl
    simp only [put_list, List.set]
    refine Drawn.take 12 (some 84) (v := ?_) rfl rfl (by kernel_rfl) (by kernel_rfl) (by kernel_rfl) (by kernel_rfl) (by kernel_rfl) rfl (fun _ _ _ h => h) (Or.inl ⟨rfl, ?_⟩) H0 ?_
    rotate_left
    · intro W hW; have hW := HS.out W hW; go_simp; try with_reducible rfl
    simp only [put_list, List.set]
    refine Drawn.take 13 (some 12) (v := ?_) rfl rfl (by kernel_rfl) (by kernel_rfl) (by kernel_rfl) (by kernel_rfl) (by kernel_rfl) rfl (fun _ _ _ h => h) (Or.inl ⟨rfl, ?_⟩) H0 ?_
    rotate_left
    · intro W hW; have hW := HS.out W hW; go_simp; try with_reducible rfl
    simp only [put_list, List.set]
    refine Drawn.done (by kernel_rfl) ?_ _
    go_wp2_with fail
    go_ret
    exact ⟨rfl, H0.below⟩
  · obtain ⟨z, rfl⟩ : ∃ z : Nat, at3 = (z : Int) := ⟨at3.toNat, by omega⟩
    obtain ⟨p, hp⟩ : ∃ p, p = z % L := ⟨_, rfl⟩
    have hpl : p < L := by rw [hp]; exact Nat.mod_lt _ hLb.1
    have hrem : (z : Int) % (L : Int) = (p : Int) := by rw [hp]; simp
    have hi0 : (0 : Int) ≤ (p : Int) ∧ (p : Int) < (L : Int) := by omega
    have hL0 : ¬ L = 0 := by omega
    have htm : (z : Int).tmod (L : Int) = (p : Int) := by rw [IntWalk.rem_in _ _ (by omega), hrem]
    have hpq : p < q.enc.length := by have := HL.out; omega
    obtain ⟨c0, f0⟩ := HC0.out p hpq
    obtain ⟨x0, hx0, hx1⟩ : ∃ x0 : Nat, x0 = (q.enc[p]'hpq).toNat ∧ x0 < 256 := ⟨_, rfl, UInt8.toNat_lt _⟩
    have hxor := xor8 hx1 HBY.out
    have hlt8 : x0 ^^^ by4 < 256 := Nat.xor_lt_two_pow (n := 8) hx1 HBY.out
    rw [← hx0] at c0
    generalize x0 ^^^ by4 = x8 at *
    obtain ⟨l8, hl8⟩ : ∃ l8, l8 = q.enc.set p (UInt8.ofNat x8) := ⟨_, rfl⟩
    have hl8n : l8.length = L := by rw [hl8, List.length_set, HL.out]
    have hcv2 : (convert 42 9 (.slice (some ⟨gg, 0, none⟩) L cap)).run Try.prog (W0.setCell ⟨gg, p, none⟩ (.int .u8 (x8 : Nat))).drew = .ok (.string (str l8)) (W0.setCell ⟨gg, p, none⟩ (.int .u8 (x8 : Nat))).drew := by
      rw [← hl8n]
      refine run_convert_bytes_back _ 42 9 5 ⟨gg, 0, none⟩ cap l8 Try.underlying42 Try.underlying5 Try.underlying9 (fun j hj => ?_)
      have e : (⟨gg, 0, none⟩ : Addr).add j = ⟨gg, j, none⟩ := by unfold Addr.add; split <;> simp_all
      have hj2 : j < q.enc.length := by rw [hl8, List.length_set] at hj; exact hj
      show (W0.setCell ⟨gg, p, none⟩ (.int .u8 (x8 : Nat))).cell? ((⟨gg, 0, none⟩ : Addr).add j) = _
      rw [e]
      by_cases hjp : j = p
      · subst hjp
        rw [World.cell?_setCell_same' _ _ _ (by rw [c0]; rfl)]
        simp only [hl8, List.getElem_set_self, b8 hlt8]
      · refine (World.cell?_setCell_other _ _ _ _ (fun e => hjp (by injection e with _ e2; exact e2.symm))).trans ?_
        rw [(HC0.out j hj2).1]
        simp only [hl8, List.getElem_set_ne (Ne.symm hjp)]
    obtain ⟨y, hy⟩ : ∃ y, str y = str l8 ++ more := ⟨l8 ++ more.data.toList, by rw [← str_append, str_list]⟩
    have hsum : ¬ 9223372036854775807 < (str l8).size + more.size := by have := HM0.out; rw [str_size, hl8n]; omega
    have HD1 := Lib.hid (fun V => show Calls Try.prog 21 #[.string (str l8 ++ more)] V fun e w' => ∃ v, e = .returned (.tuple #[v, .int .i64 ((decV y).2 : Nat)]) ∧ ItV (fun k => V.heap.size ≤ k ∧ k < w'.heap.size) (decV y).1 v w' ∧ Below V.heap.size V w' from hy ▸ decode_n y V)
    have HD2 := Lib.hid (fun V => show Calls Try.prog 22 #[.string (str l8 ++ more)] V fun e w' => ∃ v, e = .returned (.tuple #[v, .int .i64 ((decV y).2 : Nat)]) ∧ ItV (fun k => V.heap.size ≤ k ∧ k < w'.heap.size) (decV y).1 v w' ∧ Below V.heap.size V w' from hy ▸ rdecode_n y V)
    have hxe := decV_enc y
    generalize (decV y).2 = ne at *
    generalize (decV y).1 = x at *
    have hevs := x.evs_len
    have hsho := x.sho_len
    have HS1 := Lib.hid (fun (V : World) {v : Value} (hv : ItV (fun k => k < V.heap.size) x v V) => show_c _ x v V (fun k hk => hk) hv (by omega) (by omega))
    have HS2 := Lib.hid (fun (V : World) {v : Value} (hv : ItV (fun k => k < V.heap.size) x v V) => rshow_c x (by omega) _ v V (fun k hk => hk) hv)
    generalize str x.sho = sho at *
    clear hxe hevs hsho hy
    have HW := Lib.hid (((HB0.out.setCell (p := ⟨gg, p, none⟩) HGG.out (.int .u8 (x8 : Nat))).drew))
    clear hp hx0 hpl hlt8 hl8 hl8n hpq HC0 HM0 HBY HAT HQ HP HN HL HGG HB0
    generalize str l8 = s8 at *
    generalize hsy : s8 ++ more = sy at *
    go_wp2_with fail
    go_still_tail 15, (by kernel_rfl)
    go_wp2_with fail
    go_at_call 21
    refine (HD1.out _).mono ?_
    rintro e w1 ⟨v, rfl, hv, hb⟩
    obtain ⟨b1, t1, i1, n1, c1, rfl⟩ := hv.form
    have K1 := Lib.hid (((Kt.start HW.out).new hb hv (fun k hk => hk.2)).box #[.bool b1, .string t1, .slice i1 n1 c1] 27)
    clear hb hv HW
    go_wp2_with fail
    generalize hg1 : w1.heap.size = g1 at *
    generalize w1.alloc (.cells #[.bool b1, .string t1, .slice i1 n1 c1] 27) = W1 at *
    go_at_call 22
    refine (HD2.out _).mono ?_
    rintro e w2 ⟨v, rfl, hv, hb⟩
    obtain ⟨b2, t2, i2, n2, c2, rfl⟩ := hv.form
    have K2 := Lib.hid (((K1.out.new hb hv (fun k hk => hk.2)).box #[.bool b2, .string t2, .slice i2 n2 c2] 35).drew)
    clear hb hv K1
    go_wp2_with fail
    generalize hg2 : w2.heap.size = g2 at *
    have H0 := K2.out
    have HS := Lib.hid (fun (V : World) (hV : Kt w [(g2, #[.bool b2, .string t2, .slice i2 n2 c2], 35), (g1, #[.bool b1, .string t1, .slice i1 n1 c1], 27)] [(x, .agg #[.bool b2, .string t2, .slice i2 n2 c2]), (x, .agg #[.bool b1, .string t1, .slice i1 n1 c1])] V) => And.intro (hV.cells (.tail _ (.head _))) (hV.cells (.head _)))
    refine Drawn.start (fun V => Kt w [(g2, #[.bool b2, .string t2, .slice i2 n2 c2], 35), (g1, #[.bool b1, .string t1, .slice i1 n1 c1], 27)] [(x, .agg #[.bool b2, .string t2, .slice i2 n2 c2]), (x, .agg #[.bool b1, .string t1, .slice i1 n1 c1])] V) (fun _ => false) (by kernel_rfl) ?_
    refine Drawn.take 0 (some 72) (v := ?_) rfl rfl (by kernel_rfl) (by kernel_rfl) (by kernel_rfl) (by kernel_rfl) (by kernel_rfl) rfl (fun _ _ _ h => h) (Or.inl ⟨rfl, ?_⟩) H0 ?_
    rotate_left
    · intro W hW; have hW := HS.out W hW; go_simp; try with_reducible rfl
    simp only [put_list, List.set]
    refine Drawn.take 1 (some 73) (v := ?_) rfl rfl (by kernel_rfl) (by kernel_rfl) (by kernel_rfl) (by kernel_rfl) (by kernel_rfl) rfl (fun _ _ _ h => h) (Or.inl ⟨rfl, ?_⟩) H0 ?_
    rotate_left
    · intro W hW; have hW := HS.out W hW; go_simp; try with_reducible rfl
    simp only [put_list, List.set]
    refine Drawn.take 2 (some 74) (v := ?_) rfl rfl (by kernel_rfl) (by kernel_rfl) (by kernel_rfl) (by kernel_rfl) (by kernel_rfl) rfl (fun _ _ _ h => h) (Or.inl ⟨rfl, ?_⟩) H0 ?_
    rotate_left
    · intro W hW; have hW := HS.out W hW; go_simp; try with_reducible rfl
    simp only [put_list, List.set]
    refine Drawn.take 3 (some 75) (v := ?_) rfl rfl (by kernel_rfl) (by kernel_rfl) (by kernel_rfl) (by kernel_rfl) (by kernel_rfl) rfl (fun _ _ _ h => h) (Or.inl ⟨rfl, ?_⟩) H0 ?_
    rotate_left
    · intro W hW; have hW := HS.out W hW; go_simp; try with_reducible rfl
    simp only [put_list, List.set]
    refine Drawn.take 4 (some 76) (v := ?_) rfl rfl (by kernel_rfl) (by kernel_rfl) (by kernel_rfl) (by kernel_rfl) (by kernel_rfl) rfl (fun _ _ _ h => h) (Or.inl ⟨rfl, ?_⟩) H0 ?_
    rotate_left
    · intro W hW; have hW := HS.out W hW; go_simp; try with_reducible rfl
    simp only [put_list, List.set]
    refine Drawn.take 5 (some 77) (v := ?_) rfl rfl (by kernel_rfl) (by kernel_rfl) (by kernel_rfl) (by kernel_rfl) (by kernel_rfl) rfl (fun _ _ _ h => h) (Or.inl ⟨rfl, ?_⟩) H0 ?_
    rotate_left
    · intro W hW; have hW := HS.out W hW; go_simp; try with_reducible rfl
    simp only [put_list, List.set]
    refine Drawn.take 6 (some 78) (v := ?_) rfl rfl (by kernel_rfl) (by kernel_rfl) (by kernel_rfl) (by kernel_rfl) (by kernel_rfl) rfl (fun _ _ _ h => h) (Or.inl ⟨rfl, ?_⟩) H0 ?_
    rotate_left
    · intro W hW; have hW := HS.out W hW; go_simp; try with_reducible rfl
    simp only [put_list, List.set]
    refine Drawn.take 7 (some 79) (v := ?_) rfl rfl (by kernel_rfl) (by kernel_rfl) (by kernel_rfl) (by kernel_rfl) (by kernel_rfl) rfl (fun _ _ _ h => h) (Or.inl ⟨rfl, ?_⟩) H0 ?_
    rotate_left
    · intro W hW; have hW := HS.out W hW; go_simp; try with_reducible rfl
    simp only [put_list, List.set]
    refine Drawn.take 9 (some 81) (v := ?_) rfl rfl (by kernel_rfl) (by kernel_rfl) (by kernel_rfl) (by kernel_rfl) (by kernel_rfl) rfl (fun _ _ _ h => h) (Or.inl ⟨rfl, ?_⟩) H0 ?_
    rotate_left
    · intro W hW; have hW := HS.out W hW; go_simp; try with_reducible rfl
    simp only [put_list, List.set]
    refine Drawn.only 8 (by kernel_rfl) rfl rfl (fun K hK => ?_)
    go_simp
    refine (HS1.out _ (H0.it (.tail _ (.head _)))).mono ?_
    rintro e w9 ⟨rfl, hb⟩
    refine hK _ _ (fun _ _ => H0.call hb) ?_
    replace H0 := H0.call hb
    clear hK K hb
    try simp only [put_list, List.set]
    refine Drawn.only 10 (by kernel_rfl) rfl rfl (fun K hK => ?_)
    go_simp
    refine (HS2.out _ (H0.it (.head _))).mono ?_
    rintro e w9 ⟨rfl, hb⟩
    refine hK _ _ (fun _ _ => H0.call hb) ?_
    replace H0 := H0.call hb
    clear hK K hb
    try simp only [put_list, List.set]
    refine Drawn.take 11 (some 83) (v := ?_) rfl rfl (by kernel_rfl) (by kernel_rfl) (by kernel_rfl) (by kernel_rfl) (by kernel_rfl) rfl (fun _ _ _ h => h) (Or.inl ⟨rfl, ?_⟩) H0 ?_
    rotate_left
    · intro W hW; have hW := HS.out W hW; go_simp; try with_reducible rfl
    simp only [put_list, List.set]
    refine Drawn.take 12 (some 84) (v := ?_) rfl rfl (by kernel_rfl) (by kernel_rfl) (by kernel_rfl) (by kernel_rfl) (by kernel_rfl) rfl (fun _ _ _ h => h) (Or.inl ⟨rfl, ?_⟩) H0 ?_
    rotate_left
    · intro W hW; have hW := HS.out W hW; go_simp; try with_reducible rfl
    simp only [put_list, List.set]
    refine Drawn.take 13 (some 12) (v := ?_) rfl rfl (by kernel_rfl) (by kernel_rfl) (by kernel_rfl) (by kernel_rfl) (by kernel_rfl) rfl (fun _ _ _ h => h) (Or.inl ⟨rfl, ?_⟩) H0 ?_
    rotate_left
    · intro W hW; have hW := HS.out W hW; go_simp; try with_reducible rfl
    simp only [put_list, List.set]
    refine Drawn.done (by kernel_rfl) ?_ _
    go_wp2_with fail
    go_ret
    exact ⟨rfl, H0.below⟩
end Go.Proofs.Ytgaaalacoeainaa
