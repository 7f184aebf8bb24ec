/- Merged: Hfa, Hfb. -/
import Derived.Test.YtekoaheiapddiaaGreatU29
import Derived.Test.YtekoaheiapddiaaGreatU35
section
namespace Go.Proofs.YtekoaheiapddiaaGreat.Dz
open Go.RowKit

set_option maxRecDepth 100000 in
set_option maxHeartbeats 8000000 in
theorem script10_c (l : List ToldP) (pa : Option Addr) (pc : Nat) (W : World) (hT : Tolds W pa l) (hlm : l.length ≤ 9000000000000000000) :
    Calls Tryz.prog 25 #[.slice pa l.length pc] W fun e W' => ∃ v, e = .returned v ∧ OwnS W.heap.size (scriptP l) v W' ∧ Below W.heap.size W W' := by
  have H0 : Sc W pa l (scriptF 0 (l.take 0)) (.slice none 0 0) W := ⟨hT, Below.refl _ _, World.ownsRow_nil _ _ _ _⟩
  have HH := Lib.hid H0
  have HL := Lib.hid hlm
  clear hT hlm H0
  generalize hn : l.length = n at *
  have HN := Lib.hid hn
  clear hn
  go_enter Tryz.func25, Tryz.ntmps25
  go_wp2_with fail
  go_loopw [3, 4] (fun v i wr => ∃ k : Nat, i = .int .i64 k ∧ k ≤ n ∧ k ≤ 40 ∧ Sc W pa l (scriptF 0 (l.take k)) v wr) (fun _ i _ => 40 - (intOf i).toNat)
  case atStart => exact ⟨0, rfl, by omega, by omega, HH.out⟩
  case round =>
    clear HH
    obtain ⟨k, rfl, hk, hk40, M⟩ := hrel
    by_cases hlt : k < n
    · by_cases hlt4 : k < 40
      · obtain ⟨t, ht⟩ : ∃ t, l[k]? = some t := ⟨l[k]'(by rw [HN.out]; exact hlt), List.getElem?_eq_getElem _⟩
        rcases M.told.later M.below with hnil | ⟨g, o, rfl, hg, hcell⟩
        · rw [hnil] at ht; cases ht
        obtain ⟨hok, hc⟩ := hcell k t ht
        have hlti : (k : Int) < (n : Int) := by omega
        have hlti4 : (k : Int) < 40 := by omega
        have hk0 : (0 : Int) ≤ (k : Int) := by omega
        have hw : IntKind.i64.wrap ((k : Int) + 1) = (k : Int) + 1 := IntWalk.i64_in _ (by omega)
        obtain ⟨k1, hk1⟩ : ∃ k1, k1 = k + 1 := ⟨_, rfl⟩
        have hw2 : IntKind.u64.wrap ((k : Int) + 1) = (k1 : Int) := by rw [IntKind.wrap_u64]; omega
        obtain ⟨va, vc, rfl⟩ := M.row.form
        have HM := Lib.hid M
        have HOK := Lib.hid (And.intro hok (And.intro hlt4 (And.intro hk1 (And.intro ht hlt))))
        have HCC := Lib.hid (fun V (hV : Below wr.heap.size wr V) j hj => (World.cell?_of_block (a := ⟨g, o + k * 14 + j, none⟩) (hV.block g hg)).trans (hc j hj))
        have P1 := Lib.hid (fun V => rputReply_c 1 (tell1_ok hok hlt4).1 V)
        have P2 := Lib.hid (fun V => rputReply_c 2 (tell2_ok hok hlt4).1 V)
        rw [putReplyV_ok (tell1_ok hok hlt4).2] at P1
        rw [putReplyV_ok (tell2_ok hok hlt4).2] at P2
        have b12 : wr.cell? ⟨g, o + k * 14 + 12, none⟩ = some (.bool t.bad) := hc 12 (by omega)
        have b0 : wr.cell? ⟨g, o + k * 14, none⟩ = some (.int .u64 t.id) := hc 0 (by omega)
        clear M hok hlt4 hk1 ht hlt hcell hc hg hk hk40
        cases hb : t.bad with
        | true =>
          rw [hb] at b12
          have hid : idP k t = t.id := by unfold idP; rw [if_pos hb]
          have HI := Lib.hid hid
          clear hid hb
          go_upto_region 8 with fail
          generalize t.id = z at HI ⊢
          have b1 : wr.cell? ⟨g, o + k * 14 + 1, none⟩ = some (.int .u64 t.nonce) := HCC.out wr (Below.refl _ _) 1 (by omega)
          have b2 : wr.cell? ⟨g, o + k * 14 + 2, none⟩ = some (.int .u64 (l3 t.bal : Nat)) := HCC.out wr (Below.refl _ _) 2 (by omega)
          have b3 : wr.cell? ⟨g, o + k * 14 + 3, none⟩ = some (.int .u64 (l2 t.bal : Nat)) := HCC.out wr (Below.refl _ _) 3 (by omega)
          have b4 : wr.cell? ⟨g, o + k * 14 + 4, none⟩ = some (.int .u64 (l1 t.bal : Nat)) := HCC.out wr (Below.refl _ _) 4 (by omega)
          have b5 : wr.cell? ⟨g, o + k * 14 + 5, none⟩ = some (.int .u64 (l0 t.bal : Nat)) := HCC.out wr (Below.refl _ _) 5 (by omega)
          have b6 : wr.cell? ⟨g, o + k * 14 + 6, none⟩ = some (.string (str t.code)) := HCC.out wr (Below.refl _ _) 6 (by omega)
          clear b12
          go_upto_region 9 with fail
          have M1 := (Bl.start wr).alloc (.cells #[.int .u64 t.nonce, .int .u64 (l3 t.bal : Nat), .int .u64 (l2 t.bal : Nat), .int .u64 (l1 t.bal : Nat), .int .u64 (l0 t.bal : Nat), .string (str t.code)] 82 (0, 0))
          obtain ⟨q, hq⟩ : ∃ q, q = wr.heap.size := ⟨_, rfl⟩
          rw [← hq] at M1 ⊢
          clear hq b1 b2 b3 b4 b5 b6 b0
          generalize World.alloc wr _ = V1 at M1 ⊢
          obtain ⟨⟨k0, k1', k2, k3, k4, k5⟩, d0, d1, d2, d3, d4, d5⟩ := cells6 (M1.at (q := q) (List.mem_cons_self ..))
          obtain ⟨m, hm⟩ : ∃ m, m = min t.code.length 60 := ⟨_, rfl⟩
          have hst := str_take t.code m
          have hml : m ≤ (str t.code).size := by rw [str_size, hm]; exact Nat.min_le_left _ _
          have HMM := Lib.hid hm
          have hsz : (str t.code).size = t.code.length := str_size _
          have hmin : min (t.code.length : Int) 60 = (m : Int) := by omega
          clear hm
          go_upto_region 10 with fail
          have hb1 : V1.heap[q]? = some (.cells #[.int .u64 t.nonce, .int .u64 (l3 t.bal : Nat), .int .u64 (l2 t.bal : Nat), .int .u64 (l1 t.bal : Nat), .int .u64 (l0 t.bal : Nat), .string (str t.code)] 82 (0, 0)) := M1.at (List.mem_cons_self ..)
          have hb2 := heap_setCell_same V1 q 5 _ _ (.string (str (t.code.take m))) hb1
          have M2 := M1.put (chg_set (F := fun k => k = q) (F' := fun k => k = q) (Chg.refl _ V1) (Or.inl rfl) 5 (.string (str (t.code.take m)))) (o' := .cells #[.int .u64 t.nonce, .int .u64 (l3 t.bal : Nat), .int .u64 (l2 t.bal : Nat), .int .u64 (l1 t.bal : Nat), .int .u64 (l0 t.bal : Nat), .string (str (t.code.take m))] 82 (0, 0)) (by simpa using hb2) (by simp)
          clear hb1 hb2 M1 k0 k1' k2 k3 k4 k5 d0 d1 d2 d3 d4 d5 hst hml hsz hmin
          generalize World.setCell V1 _ _ = V2 at M2 ⊢
          have b7 : V2.cell? ⟨g, o + k * 14 + 7, none⟩ = some (.int .u64 (l3 t.v : Nat)) := HCC.out V2 M2.below 7 (by omega)
          have b8 : V2.cell? ⟨g, o + k * 14 + 8, none⟩ = some (.int .u64 (l2 t.v : Nat)) := HCC.out V2 M2.below 8 (by omega)
          have b9 : V2.cell? ⟨g, o + k * 14 + 9, none⟩ = some (.int .u64 (l1 t.v : Nat)) := HCC.out V2 M2.below 9 (by omega)
          have b10 : V2.cell? ⟨g, o + k * 14 + 10, none⟩ = some (.int .u64 (l0 t.v : Nat)) := HCC.out V2 M2.below 10 (by omega)
          have e2 : replyV (tell2 k t) = .agg #[.int .u64 z, .int .u64 0, .int .u64 0, .int .u64 0, .int .u64 0, .int .u64 0, .string ⟨#[]⟩, .int .u64 (l3 t.v : Nat), .int .u64 (l2 t.v : Nat), .int .u64 (l1 t.v : Nat), .int .u64 (l0 t.v : Nat)] := by
            have h0 : str [] = ⟨#[]⟩ := rfl
            simp [replyV, tell2, lim_zero, HI.out, h0]
          have e1 : replyV (tell1 k t) = .agg #[.int .u64 z, .int .u64 t.nonce, .int .u64 (l3 t.bal : Nat), .int .u64 (l2 t.bal : Nat), .int .u64 (l1 t.bal : Nat), .int .u64 (l0 t.bal : Nat), .string (str (t.code.take m)), .int .u64 0, .int .u64 0, .int .u64 0, .int .u64 0] := by
            simp [replyV, tell1, lim_zero, HI.out, HMM.out]
          rw [e1] at P1
          rw [e2] at P2
          clear e1 e2
          go_wp2_with fail
          refine (P2.out _).mono ?_
          rintro e V3 ⟨rfl, hb3⟩
          have M3 := M2.call hb3
          clear M2 hb3 P2 b7 b8 b9 b10
          have b11 : V3.cell? ⟨g, o + k * 14 + 11, none⟩ = some (.int .u8 t.kind) := HCC.out V3 M3.below 11 (by omega)
          have hkd : (t.kind : Int) % 2 = ((t.kind % 2 : Nat) : Int) := by omega
          by_cases hodd : t.kind % 2 = 1
          · have hoi : (t.kind : Int) % 2 = 1 := by omega
            have HODD := Lib.hid hodd
            clear hkd
            obtain ⟨⟨k0, k1', k2, k3, k4, k5⟩, _⟩ := cells6 (M3.at (q := q) (List.mem_cons_self ..))
            have HM3 := Lib.hid M3
            clear M3 hodd
            go_wp2_with fail
            clear b11
            refine (P1.out _).mono ?_
            rintro e V4 ⟨rfl, hb4⟩
            have MX := HM3.out.call hb4
            clear HM3 hb4 P1 k0 k1' k2 k3 k4 k5
            have b11 : V4.cell? ⟨g, o + k * 14 + 11, none⟩ = some (.int .u8 t.kind) := HCC.out V4 MX.below 11 (by omega)
            by_cases hbig : 240 < t.kind
            · have hbi : (240 : Int) < (t.kind : Int) := by omega
              have HTP := Lib.hid (show tellP k t = t.raw from by unfold tellP; rw [if_pos hbig])
              have b13 : V4.cell? ⟨g, o + k * 14 + 13, none⟩ = some (.string (str t.raw)) := HCC.out V4 MX.below 13 (by omega)

              have M9 := HM.out.call (MX.below)
              go_wp2_with (at_builtin; refine wpList_append_one rfl _ _ 38 9 rfl Tryz.underlying38 _ 16 infoStr rfl (by omega) W.heap.size (.slice va (scriptF 0 (List.take k l)).length vc) (scriptF 0 (List.take k l)).length ((scriptF 0 (l.take k)).map encS) (by rfl) (own_keep M9.row fun k' hk' => Below.heap_alloc _ _ _ (M9.row.lt hk').2) V4.heap.size (.string (str t.raw)) rfl (by rfl) (heap_alloc_new _ _) (by have := M9.below.size; simp; omega) (by have h40 := HOK.out.2.1; rw [scriptF_len, List.length_take]; omega) ?_; intro v' W' q1 q2 q3; have q1' : OwnS W.heap.size (scriptF 0 (l.take k) ++ [t.raw]) v' W' := (by unfold OwnS; rw [List.map_append, List.length_append]; exact q1); have hbel : Below W.heap.size V4 W' := (((Below.refl W.heap.size V4).alloc M9.below.size _).trans (below_grown q2 (fun k' hk' => (M9.row.lt (k := k') hk').1) (by have := M9.below.size; simp; omega))); have MZ : Sc W (some ⟨g, o, none⟩) l (scriptF 0 (l.take k) ++ [t.raw]) v' W' := ⟨M9.told, M9.below.trans hbel, q1'⟩; obtain ⟨a', c9, hf⟩ := q1'.form; have HZ9 := Lib.hid MZ; clear q1 q1' q2 q3 hbel MZ; generalize hn9 : (scriptF 0 (l.take k) ++ [t.raw]).length = n9 at hf; clear hn9; subst hf)
              obtain ⟨h1, h2, h3, h4, h5⟩ := HOK.out
              exact ⟨⟨k + 1, by go_num, by omega, by omega, by rw [script_step h4, HTP.out]; exact HZ9.out⟩, by simp [intOf]; omega⟩
            · have hbi : ¬ (240 : Int) < (t.kind : Int) := by omega
              have HTP := Lib.hid (show tellP k t = ((tell1 k t).enc 1) from by unfold tellP; rw [if_neg hbig, if_pos HODD.out])

              have M9 := HM.out.call (MX.below)
              go_wp2_with (at_builtin; refine wpList_append_one rfl _ _ 38 9 rfl Tryz.underlying38 _ 16 infoStr rfl (by omega) W.heap.size (.slice va (scriptF 0 (List.take k l)).length vc) (scriptF 0 (List.take k l)).length ((scriptF 0 (l.take k)).map encS) (by rfl) (own_keep M9.row fun k' hk' => Below.heap_alloc _ _ _ (M9.row.lt hk').2) V4.heap.size (.string (str ((tell1 k t).enc 1))) rfl (by rfl) (heap_alloc_new _ _) (by have := M9.below.size; simp; omega) (by have h40 := HOK.out.2.1; rw [scriptF_len, List.length_take]; omega) ?_; intro v' W' q1 q2 q3; have q1' : OwnS W.heap.size (scriptF 0 (l.take k) ++ [((tell1 k t).enc 1)]) v' W' := (by unfold OwnS; rw [List.map_append, List.length_append]; exact q1); have hbel : Below W.heap.size V4 W' := (((Below.refl W.heap.size V4).alloc M9.below.size _).trans (below_grown q2 (fun k' hk' => (M9.row.lt (k := k') hk').1) (by have := M9.below.size; simp; omega))); have MZ : Sc W (some ⟨g, o, none⟩) l (scriptF 0 (l.take k) ++ [((tell1 k t).enc 1)]) v' W' := ⟨M9.told, M9.below.trans hbel, q1'⟩; obtain ⟨a', c9, hf⟩ := q1'.form; have HZ9 := Lib.hid MZ; clear q1 q1' q2 q3 hbel MZ; generalize hn9 : (scriptF 0 (l.take k) ++ [((tell1 k t).enc 1)]).length = n9 at hf; clear hn9; subst hf)
              obtain ⟨h1, h2, h3, h4, h5⟩ := HOK.out
              exact ⟨⟨k + 1, by go_num, by omega, by omega, by rw [script_step h4, HTP.out]; exact HZ9.out⟩, by simp [intOf]; omega⟩
          · have hoi : ¬ (t.kind : Int) % 2 = 1 := by omega
            have HODD := Lib.hid hodd
            clear hkd hodd
            have MX := M3
            clear M3
            by_cases hbig : 240 < t.kind
            · have hbi : (240 : Int) < (t.kind : Int) := by omega
              have HTP := Lib.hid (show tellP k t = t.raw from by unfold tellP; rw [if_pos hbig])
              have b13 : V3.cell? ⟨g, o + k * 14 + 13, none⟩ = some (.string (str t.raw)) := HCC.out V3 MX.below 13 (by omega)

              have M9 := HM.out.call (MX.below)
              go_wp2_with (at_builtin; refine wpList_append_one rfl _ _ 38 9 rfl Tryz.underlying38 _ 16 infoStr rfl (by omega) W.heap.size (.slice va (scriptF 0 (List.take k l)).length vc) (scriptF 0 (List.take k l)).length ((scriptF 0 (l.take k)).map encS) (by rfl) (own_keep M9.row fun k' hk' => Below.heap_alloc _ _ _ (M9.row.lt hk').2) V3.heap.size (.string (str t.raw)) rfl (by rfl) (heap_alloc_new _ _) (by have := M9.below.size; simp; omega) (by have h40 := HOK.out.2.1; rw [scriptF_len, List.length_take]; omega) ?_; intro v' W' q1 q2 q3; have q1' : OwnS W.heap.size (scriptF 0 (l.take k) ++ [t.raw]) v' W' := (by unfold OwnS; rw [List.map_append, List.length_append]; exact q1); have hbel : Below W.heap.size V3 W' := (((Below.refl W.heap.size V3).alloc M9.below.size _).trans (below_grown q2 (fun k' hk' => (M9.row.lt (k := k') hk').1) (by have := M9.below.size; simp; omega))); have MZ : Sc W (some ⟨g, o, none⟩) l (scriptF 0 (l.take k) ++ [t.raw]) v' W' := ⟨M9.told, M9.below.trans hbel, q1'⟩; obtain ⟨a', c9, hf⟩ := q1'.form; have HZ9 := Lib.hid MZ; clear q1 q1' q2 q3 hbel MZ; generalize hn9 : (scriptF 0 (l.take k) ++ [t.raw]).length = n9 at hf; clear hn9; subst hf)
              obtain ⟨h1, h2, h3, h4, h5⟩ := HOK.out
              exact ⟨⟨k + 1, by go_num, by omega, by omega, by rw [script_step h4, HTP.out]; exact HZ9.out⟩, by simp [intOf]; omega⟩
            · have hbi : ¬ (240 : Int) < (t.kind : Int) := by omega
              have HTP := Lib.hid (show tellP k t = ((tell2 k t).enc 2) from by unfold tellP; rw [if_neg hbig, if_neg HODD.out])

              have M9 := HM.out.call (MX.below)
              go_wp2_with (at_builtin; refine wpList_append_one rfl _ _ 38 9 rfl Tryz.underlying38 _ 16 infoStr rfl (by omega) W.heap.size (.slice va (scriptF 0 (List.take k l)).length vc) (scriptF 0 (List.take k l)).length ((scriptF 0 (l.take k)).map encS) (by rfl) (own_keep M9.row fun k' hk' => Below.heap_alloc _ _ _ (M9.row.lt hk').2) V3.heap.size (.string (str ((tell2 k t).enc 2))) rfl (by rfl) (heap_alloc_new _ _) (by have := M9.below.size; simp; omega) (by have h40 := HOK.out.2.1; rw [scriptF_len, List.length_take]; omega) ?_; intro v' W' q1 q2 q3; have q1' : OwnS W.heap.size (scriptF 0 (l.take k) ++ [((tell2 k t).enc 2)]) v' W' := (by unfold OwnS; rw [List.map_append, List.length_append]; exact q1); have hbel : Below W.heap.size V3 W' := (((Below.refl W.heap.size V3).alloc M9.below.size _).trans (below_grown q2 (fun k' hk' => (M9.row.lt (k := k') hk').1) (by have := M9.below.size; simp; omega))); have MZ : Sc W (some ⟨g, o, none⟩) l (scriptF 0 (l.take k) ++ [((tell2 k t).enc 2)]) v' W' := ⟨M9.told, M9.below.trans hbel, q1'⟩; obtain ⟨a', c9, hf⟩ := q1'.form; have HZ9 := Lib.hid MZ; clear q1 q1' q2 q3 hbel MZ; generalize hn9 : (scriptF 0 (l.take k) ++ [((tell2 k t).enc 2)]).length = n9 at hf; clear hn9; subst hf)
              obtain ⟨h1, h2, h3, h4, h5⟩ := HOK.out
              exact ⟨⟨k + 1, by go_num, by omega, by omega, by rw [script_step h4, HTP.out]; exact HZ9.out⟩, by simp [intOf]; omega⟩
        | false =>
          rw [hb] at b12
          have hid : idP k t = k1 := by unfold idP; rw [if_neg (by rw [hb]; decide)]; exact HOK.out.2.2.1.symm
          have HI := Lib.hid hid
          clear hid hb
          go_upto_region 8 with fail
          generalize k1 = z at HI HOK hw2 ⊢
          have b1 : wr.cell? ⟨g, o + k * 14 + 1, none⟩ = some (.int .u64 t.nonce) := HCC.out wr (Below.refl _ _) 1 (by omega)
          have b2 : wr.cell? ⟨g, o + k * 14 + 2, none⟩ = some (.int .u64 (l3 t.bal : Nat)) := HCC.out wr (Below.refl _ _) 2 (by omega)
          have b3 : wr.cell? ⟨g, o + k * 14 + 3, none⟩ = some (.int .u64 (l2 t.bal : Nat)) := HCC.out wr (Below.refl _ _) 3 (by omega)
          have b4 : wr.cell? ⟨g, o + k * 14 + 4, none⟩ = some (.int .u64 (l1 t.bal : Nat)) := HCC.out wr (Below.refl _ _) 4 (by omega)
          have b5 : wr.cell? ⟨g, o + k * 14 + 5, none⟩ = some (.int .u64 (l0 t.bal : Nat)) := HCC.out wr (Below.refl _ _) 5 (by omega)
          have b6 : wr.cell? ⟨g, o + k * 14 + 6, none⟩ = some (.string (str t.code)) := HCC.out wr (Below.refl _ _) 6 (by omega)
          clear b12
          go_upto_region 9 with fail
          have M1 := (Bl.start wr).alloc (.cells #[.int .u64 t.nonce, .int .u64 (l3 t.bal : Nat), .int .u64 (l2 t.bal : Nat), .int .u64 (l1 t.bal : Nat), .int .u64 (l0 t.bal : Nat), .string (str t.code)] 82 (0, 0))
          obtain ⟨q, hq⟩ : ∃ q, q = wr.heap.size := ⟨_, rfl⟩
          rw [← hq] at M1 ⊢
          clear hq b1 b2 b3 b4 b5 b6 b0
          generalize World.alloc wr _ = V1 at M1 ⊢
          obtain ⟨⟨k0, k1', k2, k3, k4, k5⟩, d0, d1, d2, d3, d4, d5⟩ := cells6 (M1.at (q := q) (List.mem_cons_self ..))
          obtain ⟨m, hm⟩ : ∃ m, m = min t.code.length 60 := ⟨_, rfl⟩
          have hst := str_take t.code m
          have hml : m ≤ (str t.code).size := by rw [str_size, hm]; exact Nat.min_le_left _ _
          have HMM := Lib.hid hm
          have hsz : (str t.code).size = t.code.length := str_size _
          have hmin : min (t.code.length : Int) 60 = (m : Int) := by omega
          clear hm
          go_upto_region 10 with fail
          have hb1 : V1.heap[q]? = some (.cells #[.int .u64 t.nonce, .int .u64 (l3 t.bal : Nat), .int .u64 (l2 t.bal : Nat), .int .u64 (l1 t.bal : Nat), .int .u64 (l0 t.bal : Nat), .string (str t.code)] 82 (0, 0)) := M1.at (List.mem_cons_self ..)
          have hb2 := heap_setCell_same V1 q 5 _ _ (.string (str (t.code.take m))) hb1
          have M2 := M1.put (chg_set (F := fun k => k = q) (F' := fun k => k = q) (Chg.refl _ V1) (Or.inl rfl) 5 (.string (str (t.code.take m)))) (o' := .cells #[.int .u64 t.nonce, .int .u64 (l3 t.bal : Nat), .int .u64 (l2 t.bal : Nat), .int .u64 (l1 t.bal : Nat), .int .u64 (l0 t.bal : Nat), .string (str (t.code.take m))] 82 (0, 0)) (by simpa using hb2) (by simp)
          clear hb1 hb2 M1 k0 k1' k2 k3 k4 k5 d0 d1 d2 d3 d4 d5 hst hml hsz hmin
          generalize World.setCell V1 _ _ = V2 at M2 ⊢
          have b7 : V2.cell? ⟨g, o + k * 14 + 7, none⟩ = some (.int .u64 (l3 t.v : Nat)) := HCC.out V2 M2.below 7 (by omega)
          have b8 : V2.cell? ⟨g, o + k * 14 + 8, none⟩ = some (.int .u64 (l2 t.v : Nat)) := HCC.out V2 M2.below 8 (by omega)
          have b9 : V2.cell? ⟨g, o + k * 14 + 9, none⟩ = some (.int .u64 (l1 t.v : Nat)) := HCC.out V2 M2.below 9 (by omega)
          have b10 : V2.cell? ⟨g, o + k * 14 + 10, none⟩ = some (.int .u64 (l0 t.v : Nat)) := HCC.out V2 M2.below 10 (by omega)
          have e2 : replyV (tell2 k t) = .agg #[.int .u64 z, .int .u64 0, .int .u64 0, .int .u64 0, .int .u64 0, .int .u64 0, .string ⟨#[]⟩, .int .u64 (l3 t.v : Nat), .int .u64 (l2 t.v : Nat), .int .u64 (l1 t.v : Nat), .int .u64 (l0 t.v : Nat)] := by
            have h0 : str [] = ⟨#[]⟩ := rfl
            simp [replyV, tell2, lim_zero, HI.out, h0]
          have e1 : replyV (tell1 k t) = .agg #[.int .u64 z, .int .u64 t.nonce, .int .u64 (l3 t.bal : Nat), .int .u64 (l2 t.bal : Nat), .int .u64 (l1 t.bal : Nat), .int .u64 (l0 t.bal : Nat), .string (str (t.code.take m)), .int .u64 0, .int .u64 0, .int .u64 0, .int .u64 0] := by
            simp [replyV, tell1, lim_zero, HI.out, HMM.out]
          rw [e1] at P1
          rw [e2] at P2
          clear e1 e2
          go_wp2_with fail
          refine (P2.out _).mono ?_
          rintro e V3 ⟨rfl, hb3⟩
          have M3 := M2.call hb3
          clear M2 hb3 P2 b7 b8 b9 b10
          have b11 : V3.cell? ⟨g, o + k * 14 + 11, none⟩ = some (.int .u8 t.kind) := HCC.out V3 M3.below 11 (by omega)
          have hkd : (t.kind : Int) % 2 = ((t.kind % 2 : Nat) : Int) := by omega
          by_cases hodd : t.kind % 2 = 1
          · have hoi : (t.kind : Int) % 2 = 1 := by omega
            have HODD := Lib.hid hodd
            clear hkd
            obtain ⟨⟨k0, k1', k2, k3, k4, k5⟩, _⟩ := cells6 (M3.at (q := q) (List.mem_cons_self ..))
            have HM3 := Lib.hid M3
            clear M3 hodd
            go_wp2_with fail
            clear b11
            refine (P1.out _).mono ?_
            rintro e V4 ⟨rfl, hb4⟩
            have MX := HM3.out.call hb4
            clear HM3 hb4 P1 k0 k1' k2 k3 k4 k5
            have b11 : V4.cell? ⟨g, o + k * 14 + 11, none⟩ = some (.int .u8 t.kind) := HCC.out V4 MX.below 11 (by omega)
            by_cases hbig : 240 < t.kind
            · have hbi : (240 : Int) < (t.kind : Int) := by omega
              have HTP := Lib.hid (show tellP k t = t.raw from by unfold tellP; rw [if_pos hbig])
              have b13 : V4.cell? ⟨g, o + k * 14 + 13, none⟩ = some (.string (str t.raw)) := HCC.out V4 MX.below 13 (by omega)

              have M9 := HM.out.call (MX.below)
              go_wp2_with (at_builtin; refine wpList_append_one rfl _ _ 38 9 rfl Tryz.underlying38 _ 16 infoStr rfl (by omega) W.heap.size (.slice va (scriptF 0 (List.take k l)).length vc) (scriptF 0 (List.take k l)).length ((scriptF 0 (l.take k)).map encS) (by rfl) (own_keep M9.row fun k' hk' => Below.heap_alloc _ _ _ (M9.row.lt hk').2) V4.heap.size (.string (str t.raw)) rfl (by rfl) (heap_alloc_new _ _) (by have := M9.below.size; simp; omega) (by have h40 := HOK.out.2.1; rw [scriptF_len, List.length_take]; omega) ?_; intro v' W' q1 q2 q3; have q1' : OwnS W.heap.size (scriptF 0 (l.take k) ++ [t.raw]) v' W' := (by unfold OwnS; rw [List.map_append, List.length_append]; exact q1); have hbel : Below W.heap.size V4 W' := (((Below.refl W.heap.size V4).alloc M9.below.size _).trans (below_grown q2 (fun k' hk' => (M9.row.lt (k := k') hk').1) (by have := M9.below.size; simp; omega))); have MZ : Sc W (some ⟨g, o, none⟩) l (scriptF 0 (l.take k) ++ [t.raw]) v' W' := ⟨M9.told, M9.below.trans hbel, q1'⟩; obtain ⟨a', c9, hf⟩ := q1'.form; have HZ9 := Lib.hid MZ; clear q1 q1' q2 q3 hbel MZ; generalize hn9 : (scriptF 0 (l.take k) ++ [t.raw]).length = n9 at hf; clear hn9; subst hf)
              obtain ⟨h1, h2, h3, h4, h5⟩ := HOK.out
              exact ⟨⟨k + 1, by go_num, by omega, by omega, by rw [script_step h4, HTP.out]; exact HZ9.out⟩, by simp [intOf]; omega⟩
            · have hbi : ¬ (240 : Int) < (t.kind : Int) := by omega
              have HTP := Lib.hid (show tellP k t = ((tell1 k t).enc 1) from by unfold tellP; rw [if_neg hbig, if_pos HODD.out])

              have M9 := HM.out.call (MX.below)
              go_wp2_with (at_builtin; refine wpList_append_one rfl _ _ 38 9 rfl Tryz.underlying38 _ 16 infoStr rfl (by omega) W.heap.size (.slice va (scriptF 0 (List.take k l)).length vc) (scriptF 0 (List.take k l)).length ((scriptF 0 (l.take k)).map encS) (by rfl) (own_keep M9.row fun k' hk' => Below.heap_alloc _ _ _ (M9.row.lt hk').2) V4.heap.size (.string (str ((tell1 k t).enc 1))) rfl (by rfl) (heap_alloc_new _ _) (by have := M9.below.size; simp; omega) (by have h40 := HOK.out.2.1; rw [scriptF_len, List.length_take]; omega) ?_; intro v' W' q1 q2 q3; have q1' : OwnS W.heap.size (scriptF 0 (l.take k) ++ [((tell1 k t).enc 1)]) v' W' := (by unfold OwnS; rw [List.map_append, List.length_append]; exact q1); have hbel : Below W.heap.size V4 W' := (((Below.refl W.heap.size V4).alloc M9.below.size _).trans (below_grown q2 (fun k' hk' => (M9.row.lt (k := k') hk').1) (by have := M9.below.size; simp; omega))); have MZ : Sc W (some ⟨g, o, none⟩) l (scriptF 0 (l.take k) ++ [((tell1 k t).enc 1)]) v' W' := ⟨M9.told, M9.below.trans hbel, q1'⟩; obtain ⟨a', c9, hf⟩ := q1'.form; have HZ9 := Lib.hid MZ; clear q1 q1' q2 q3 hbel MZ; generalize hn9 : (scriptF 0 (l.take k) ++ [((tell1 k t).enc 1)]).length = n9 at hf; clear hn9; subst hf)
              obtain ⟨h1, h2, h3, h4, h5⟩ := HOK.out
              exact ⟨⟨k + 1, by go_num, by omega, by omega, by rw [script_step h4, HTP.out]; exact HZ9.out⟩, by simp [intOf]; omega⟩
          · have hoi : ¬ (t.kind : Int) % 2 = 1 := by omega
            have HODD := Lib.hid hodd
            clear hkd hodd
            have MX := M3
            clear M3
            by_cases hbig : 240 < t.kind
            · have hbi : (240 : Int) < (t.kind : Int) := by omega
              have HTP := Lib.hid (show tellP k t = t.raw from by unfold tellP; rw [if_pos hbig])
              have b13 : V3.cell? ⟨g, o + k * 14 + 13, none⟩ = some (.string (str t.raw)) := HCC.out V3 MX.below 13 (by omega)

              have M9 := HM.out.call (MX.below)
              go_wp2_with (at_builtin; refine wpList_append_one rfl _ _ 38 9 rfl Tryz.underlying38 _ 16 infoStr rfl (by omega) W.heap.size (.slice va (scriptF 0 (List.take k l)).length vc) (scriptF 0 (List.take k l)).length ((scriptF 0 (l.take k)).map encS) (by rfl) (own_keep M9.row fun k' hk' => Below.heap_alloc _ _ _ (M9.row.lt hk').2) V3.heap.size (.string (str t.raw)) rfl (by rfl) (heap_alloc_new _ _) (by have := M9.below.size; simp; omega) (by have h40 := HOK.out.2.1; rw [scriptF_len, List.length_take]; omega) ?_; intro v' W' q1 q2 q3; have q1' : OwnS W.heap.size (scriptF 0 (l.take k) ++ [t.raw]) v' W' := (by unfold OwnS; rw [List.map_append, List.length_append]; exact q1); have hbel : Below W.heap.size V3 W' := (((Below.refl W.heap.size V3).alloc M9.below.size _).trans (below_grown q2 (fun k' hk' => (M9.row.lt (k := k') hk').1) (by have := M9.below.size; simp; omega))); have MZ : Sc W (some ⟨g, o, none⟩) l (scriptF 0 (l.take k) ++ [t.raw]) v' W' := ⟨M9.told, M9.below.trans hbel, q1'⟩; obtain ⟨a', c9, hf⟩ := q1'.form; have HZ9 := Lib.hid MZ; clear q1 q1' q2 q3 hbel MZ; generalize hn9 : (scriptF 0 (l.take k) ++ [t.raw]).length = n9 at hf; clear hn9; subst hf)
              obtain ⟨h1, h2, h3, h4, h5⟩ := HOK.out
              exact ⟨⟨k + 1, by go_num, by omega, by omega, by rw [script_step h4, HTP.out]; exact HZ9.out⟩, by simp [intOf]; omega⟩
            · have hbi : ¬ (240 : Int) < (t.kind : Int) := by omega
              have HTP := Lib.hid (show tellP k t = ((tell2 k t).enc 2) from by unfold tellP; rw [if_neg hbig, if_neg HODD.out])

              have M9 := HM.out.call (MX.below)
              go_wp2_with (at_builtin; refine wpList_append_one rfl _ _ 38 9 rfl Tryz.underlying38 _ 16 infoStr rfl (by omega) W.heap.size (.slice va (scriptF 0 (List.take k l)).length vc) (scriptF 0 (List.take k l)).length ((scriptF 0 (l.take k)).map encS) (by rfl) (own_keep M9.row fun k' hk' => Below.heap_alloc _ _ _ (M9.row.lt hk').2) V3.heap.size (.string (str ((tell2 k t).enc 2))) rfl (by rfl) (heap_alloc_new _ _) (by have := M9.below.size; simp; omega) (by have h40 := HOK.out.2.1; rw [scriptF_len, List.length_take]; omega) ?_; intro v' W' q1 q2 q3; have q1' : OwnS W.heap.size (scriptF 0 (l.take k) ++ [((tell2 k t).enc 2)]) v' W' := (by unfold OwnS; rw [List.map_append, List.length_append]; exact q1); have hbel : Below W.heap.size V3 W' := (((Below.refl W.heap.size V3).alloc M9.below.size _).trans (below_grown q2 (fun k' hk' => (M9.row.lt (k := k') hk').1) (by have := M9.below.size; simp; omega))); have MZ : Sc W (some ⟨g, o, none⟩) l (scriptF 0 (l.take k) ++ [((tell2 k t).enc 2)]) v' W' := ⟨M9.told, M9.below.trans hbel, q1'⟩; obtain ⟨a', c9, hf⟩ := q1'.form; have HZ9 := Lib.hid MZ; clear q1 q1' q2 q3 hbel MZ; generalize hn9 : (scriptF 0 (l.take k) ++ [((tell2 k t).enc 2)]).length = n9 at hf; clear hn9; subst hf)
              obtain ⟨h1, h2, h3, h4, h5⟩ := HOK.out
              exact ⟨⟨k + 1, by go_num, by omega, by omega, by rw [script_step h4, HTP.out]; exact HZ9.out⟩, by simp [intOf]; omega⟩
      · obtain rfl : k = 40 := by omega
        have hlti : ((40 : Nat) : Int) < (n : Int) := by omega
        have hfin : scriptP l = scriptF 0 (l.take 40) := rfl
        have HM := Lib.hid M
        clear M hk hk40 hlt hlt4
        obtain ⟨va, vc, rfl⟩ := HM.out.row.form
        go_wp2_with fail
        go_ret
        exact ⟨_, rfl, HM.out.row, HM.out.below⟩
    · obtain rfl : k = n := by omega
      have hlti : ¬ ((k : Nat) : Int) < (k : Int) := by omega
      have hfin : scriptP l = scriptF 0 (l.take k) := by
        unfold scriptP
        rw [List.take_of_length_le (by rw [HN.out]; exact hk40), List.take_of_length_le (by rw [HN.out]; exact Nat.le_refl _)]
      have HM := Lib.hid M
      have HF := Lib.hid hfin
      clear M hk hk40 hlt hfin
      obtain ⟨va, vc, rfl⟩ := HM.out.row.form
      go_wp2_with fail
      go_ret
      rw [HF.out]
      exact ⟨_, rfl, HM.out.row, HM.out.below⟩
end Go.Proofs.YtekoaheiapddiaaGreat.Dz
end
section
namespace Go.Proofs.YtekoaheiapddiaaGreat.Dz.Wo
open Go.RowKit Go.Maps Mp

theorem askOk : AskOk := ⟨fun h a h1 h2 h3 => acct_c h a h1 h2 h3, fun h a k hk h1 h2 h3 => slot_c h a k hk h1 h2 h3⟩
def Sf (w : Wd) (b d bc n N : Nat) (L : List (Nat × Obj)) (W V : World) : Prop := ∃ x ff, An (Pw w b d bc n N x ff) (ftP x b ff) W (fun _ => False) L V
section
variable {w w' : Wd} {b d bc n n' N N' : Nat} {L : List (Nat × Obj)} {W V V' : World}
theorem Sf.lv {x : Sx} {ff : Nat → Prop} (M : An (Pw w b d bc n N x ff) (ftP x b ff) W (fun _ => False) L V) (h : Lv w' b d bc n' N' (ftP x b ff) V V') : Sf w' b d bc n' N' L W V' := by
  obtain ⟨x', ff', h1, h2⟩ := h
  exact ⟨x', ff', M.step h1.ob h2⟩
theorem Sf.call (h : Sf w b d bc n N L W V) (hb : Below V.heap.size V V') : Sf w b d bc n N L W V' := by
  obtain ⟨x, ff, M⟩ := h
  exact ⟨x, ff, M.call hb⟩
theorem Sf.alloc (h : Sf w b d bc n N L W V) (o : Obj) : Sf w b d bc n N ((V.heap.size, o) :: L) W (V.alloc o) := by
  obtain ⟨x, ff, M⟩ := h
  exact ⟨x, ff, M.alloc o⟩
theorem Sf.at (h : Sf w b d bc n N L W V) {q : Nat} {o : Obj} (hm : (q, o) ∈ L) : V.heap[q]? = some o := by
  obtain ⟨x, ff, M⟩ := h
  exact M.at hm
theorem Sf.below (h : Sf w b d bc n N L W V) : Below W.heap.size W V := by
  obtain ⟨x, ff, M⟩ := h
  have c := M.chg
  exact ⟨c.os, c.tape, c.output, c.size, fun k hk => c.block k hk fun e => e⟩
theorem Sf.acct (h : Sf w b d bc n N L W V) (hN : FzOk N w.far) (a : Nm) : Calls Tryz.prog 42 #[.pointer (some ⟨b, 0, none⟩), .string (str a)] V fun e V' => e = .returned (.tuple #[.agg (accCells (w.acct a).1.1), .int .i64 (w.acct a).1.2]) ∧ Sf (w.acct a).2 b d bc n (N + 4) L W V' := by
  obtain ⟨x, ff, M⟩ := h
  refine (account_c M.ob.it hN a).mono ?_
  rintro e V1 ⟨rfl, h2⟩
  exact ⟨rfl, Sf.lv M h2⟩
theorem Sf.slot (h : Sf w b d bc n N L W V) (hN : FzOk N w.far) (a : Nm) {k : Nat} (hk : k < W256) : Calls Tryz.prog 50 #[.pointer (some ⟨b, 0, none⟩), .string (str a), .agg (wordC k)] V fun e V' => e = .returned (.tuple #[.agg (wordC (w.slot a k).1.1), .int .i64 (w.slot a k).1.2]) ∧ Sf (w.slot a k).2 b d bc n (N + 4) L W V' := by
  obtain ⟨x, ff, M⟩ := h
  refine (wslot_c M.ob.it hN a hk).mono ?_
  rintro e V1 ⟨rfl, h2⟩
  exact ⟨rfl, Sf.lv M h2⟩
theorem Sf.nonce (h : Sf w b d bc n N L W V) (hN : FzOk N w.far) (hn : n < 900000) (a : Nm) (m : Nat) : Calls Tryz.prog 33 #[.pointer (some ⟨b, 0, none⟩), .string (str a), .int .u64 (m : Nat)] V fun e V' => e = .returned (.int .i64 (w.alter a (fun y => ⟨m, y.bal, y.code⟩)).1) ∧ Sf (w.alter a (fun y => ⟨m, y.bal, y.code⟩)).2 b d bc (n + 2) (N + 4) L W V' := by
  obtain ⟨x, ff, M⟩ := h
  refine (wSetNonce_c M.ob.it hN hn a m).mono ?_
  rintro e V1 ⟨rfl, h2⟩
  exact ⟨rfl, Sf.lv M h2⟩
theorem Sf.delete (h : Sf w b d bc n N L W V) (hn : n < 900000) {a : Nm} (ha : a.length = 20) : Calls Tryz.prog 49 #[.pointer (some ⟨b, 0, none⟩), .string (str a)] V fun e V' => e = .returned (.int .i64 0) ∧ Sf (w.wiped a) b d bc (n + 2) N L W V' := by
  obtain ⟨x, ff, M⟩ := h
  have e9 : w.del a = (0, w.wiped a) := by unfold Wd.del; rw [if_neg (by omega)]; rfl
  refine (wDelete_c M.ob.it hn a).mono ?_
  rintro e V1 ⟨rfl, h2⟩
  rw [e9] at h2 ⊢
  exact ⟨rfl, Sf.lv M h2⟩
theorem Sf.mark (h : Sf w b d bc n N L W V) : Calls Tryz.prog 31 #[.pointer (some ⟨b, 0, none⟩)] V fun e V' => e = .returned (.int .i64 (w.old.length : Nat)) ∧ V' = V := by
  obtain ⟨x, ff, M⟩ := h
  exact wMark_c M.ob.it
theorem Sf.backTo {w0 : Wd} (h : Sf w b d bc n N L W V) (hn : n < 900000) {mk : Nat} (hm : mk ≤ w.old.length) (h0 : w0.far = w.far) (hp : pops (w.old.length - mk) w.G w.old = (w0.G, w0.old)) : Calls Tryz.prog 39 #[.pointer (some ⟨b, 0, none⟩), .int .i64 (mk : Int)] V fun e V' => e = .returned (.bool true) ∧ Sf w0 b d bc (n + w.old.length) N L W V' := by
  obtain ⟨x, ff, M⟩ := h
  have e9 : w.back mk = (true, w0) := by
    unfold Wd.back
    rw [if_neg (by omega), show w.old.length - (mk : Int).toNat = w.old.length - mk by omega, hp, ← h0]
  refine (back_true M.ob.it (by omega) hm).mono ?_
  rintro e V1 ⟨rfl, h2⟩
  rw [e9] at h2 ⊢
  exact ⟨rfl, Sf.lv M h2⟩
theorem Sf.asked {p : Pd} {c : Cl} (h : Sf w b d bc n N L W V) (hf : w.far = .yes p c) (hl : c.asked.length ≤ 1000000000) : Calls Tryz.prog 21 #[.pointer (some ⟨bc, 0, none⟩)] V fun e V' => ∃ v, e = .returned v ∧ OwnS V.heap.size c.asked v V' ∧ Below V.heap.size V V' := by
  obtain ⟨x, ff, M⟩ := h
  have hF := M.ob.it.far
  rw [hf] at hF
  obtain ⟨F, m, sv, av, hB, _⟩ := hF
  exact asked_c hB.at' hl
/-- A script is handed to the client of a world. -/
theorem Sf.script {G : Gs} {old : List Gs} {p : Pd} {c : Cl} (h : Sf ⟨G, old, .yes p c⟩ b d bc n N L W V) (l : List Nm) (sa : Option Addr) (k : Nat) (hs : Src (l.map encS) sa V) (hl : c.script.length + l.length ≤ 1000000000000) :
    Calls Tryz.prog 18 #[.pointer (some ⟨bc, 0, none⟩), .slice sa l.length k] V fun e V' => e = .returned (.tuple #[]) ∧ Sf ⟨G, old, .yes p { c with script := c.script ++ l }⟩ b d bc n N L W V' := by
  obtain ⟨x, ff, M⟩ := h
  obtain ⟨F, m, sv, av, hB, hff⟩ := M.ob.it.far
  refine (script_m hB.at' l sa k hs hl).mono ?_
  rintro e V1 ⟨rfl, sv5, h5, h6⟩
  obtain ⟨g1, g2⟩ := hB.client h5 h6
  rw [← hff] at g2
  obtain ⟨g3, g4⟩ := M.ob.it.farAct (z := .yes p { c with script := c.script ++ l }) ⟨F, m, sv5, av, g1, rfl⟩ g2 rfl
  exact ⟨rfl, _, _, M.step g3.ob g4⟩
end
theorem fz_acct {p p' : Pd} {c c' : Cl} {a : Nm} {r : ReplyP} {e : Int} (h : askP nmC p c ⟨0, a, 0, 1⟩ = ((r, e), p', c')) : (Fz.yes p c).acct a = ((replyAcc r, e), .yes p' c') := by
  show ((replyAcc (askP nmC p c ⟨0, a, 0, 1⟩).1.1, (askP nmC p c ⟨0, a, 0, 1⟩).1.2), Fz.yes (askP nmC p c ⟨0, a, 0, 1⟩).2.1 (askP nmC p c ⟨0, a, 0, 1⟩).2.2) = _
  rw [h]
theorem fz_slot {p p' : Pd} {c c' : Cl} {a : Nm} {k : Nat} {r : ReplyP} {e : Int} (h : askP nmC p c ⟨0, a, k, 2⟩ = ((r, e), p', c')) : (Fz.yes p c).slot a k = ((r.value, e), .yes p' c') := by
  show (((askP nmC p c ⟨0, a, k, 2⟩).1.1.value, (askP nmC p c ⟨0, a, k, 2⟩).1.2), Fz.yes (askP nmC p c ⟨0, a, k, 2⟩).2.1 (askP nmC p c ⟨0, a, k, 2⟩).2.2) = _
  rw [h]
theorem far_pure {nonce bal v : Nat} (h1 : nonce < M64) (h2 : bal < W256) (h3 : v < W256) :
    ∃ (p1 p2 : Pd) (c1 c2 : Cl), (Fz.yes (Pd.new 100000) ⟨[], [(rC 1 nonce bal []).enc 1, (rV 2 v).enc 2], []⟩).acct (addrP 0) = ((⟨nonce, bal, []⟩, 0), .yes p1 c1) ∧ (Fz.yes p1 c1).slot (addrP 0) 0 = ((v, 0), .yes p2 c2) ∧
      (Fz.yes p2 c2).acct (addrP 0) = ((⟨nonce, bal, []⟩, 0), .yes p2 c2) ∧ (Fz.yes p2 c2).slot (addrP 0) 0 = ((v, 0), .yes p2 c2) ∧ c1.asked.length ≤ 3 ∧ c2.asked.length = 2 := by
  obtain ⟨p1, p2, s1, q1, q2, e1, e2, e3, e4, e5, _, e7⟩ := once_near (n := 0) (k := 0) (code := []) (by omega) h1 h2 (by simp) (by unfold W256; decide) h3
  have e6 := (e7 q2).2
  refine ⟨p1, p2, ⟨[(aX, rC 0 nonce bal [])], s1, q1⟩, ⟨[(aX, rC 0 nonce bal []), (aK 0, rV 0 v)], [], q2⟩, ?_, ?_, ?_, ?_, e2, e4⟩
  · exact fz_acct e1
  · exact fz_slot e3
  · exact fz_acct e5
  · exact fz_slot e6
end Go.Proofs.YtekoaheiapddiaaGreat.Dz.Wo
end
