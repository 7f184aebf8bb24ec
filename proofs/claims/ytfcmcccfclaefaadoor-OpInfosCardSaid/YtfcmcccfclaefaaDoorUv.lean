/- OpInfos: the law's walk. -/
import Derived.Test.YtfcmcccfclaefaaDoorUt
namespace Go.Proofs.YtfcmcccfclaefaaDoor
open Go.RowKit Go.Maps Go.Shelf Mp

set_option maxRecDepth 100000 in
set_option maxHeartbeats 8000000 in
theorem infos_c {a : Nat} (ha : a < 256) (name : ByteArray) (W : World) : Calls Tryd.prog 3 #[.int .u8 (a : Nat), .string name] W fun e W' => e = .returned (.bool true) ∧ Below W.heap.size W W' := by
  have C1 := Lib.hid (fun V => exam_c V)
  have C2 := Lib.hid (fun V => of_c ha V)
  have C3 := Lib.hid (fun V => rof_c ha V)
  unfold OfR at C3
  have C4 := Lib.hid (fun V => code_c name V)
  have C5 := Lib.hid (fun V => rcode_c name V)
  unfold CodeR at C4 C5
  have C6 := Lib.hid (fun V => push_calls a V)
  have C7 := Lib.hid (fun V => rpush_calls a ha V)
  obtain ⟨s, g, i, u, hio⟩ := infO_cells (infoOf a)
  rw [hio] at C2 C3
  generalize (infoOf a).isSome = z at *
  generalize pushN a = pn at *
  generalize pushB a = pb at *
  generalize ((codeOf name).getD 0 : Nat) = cn at *
  generalize (codeOf name).isSome = cb at *
  clear hio ha
  go_enter Tryd.func3, Tryd.ntmps3
  go_wp2_with fail
  refine (C1.out _).mono ?_
  rintro e V1 ⟨rfl, h1⟩
  have H1 := Lib.hid ((Lw.start W).call h1)
  clear h1 C1
  go_wp2_with fail
  refine (C2.out _).mono ?_
  rintro e V2 ⟨rfl, h2⟩
  have H2 := Lib.hid ((H1.out.call h2).alloc (.cells #[.string s, .int .u64 g, .int .i64 i, .int .i64 u] 25))
  clear h2 C2 H1
  go_wp2_with fail
  generalize World.alloc V2 _ = V2a at *
  generalize V2.heap.size = q at *
  refine (C3.out _).mono ?_
  rintro e V3 ⟨rfl, h3⟩
  have H3 := Lib.hid ((H2.out.call h3).alloc (.cells #[.string s, .int .u64 g, .int .i64 i, .int .i64 u] 28))
  clear h3 C3 H2
  go_wp2_with fail
  generalize World.alloc V3 _ = V3a at *
  generalize V3.heap.size = q3 at *
  refine (C4.out _).mono ?_
  rintro e V4 ⟨rfl, h4⟩
  have H4 := Lib.hid (H3.out.call h4)
  clear h4 C4 H3
  go_wp2_with fail
  refine (C5.out _).mono ?_
  rintro e V5 ⟨rfl, h5⟩
  have H5 := Lib.hid (H4.out.call h5)
  clear h5 C5 H4
  obtain ⟨⟨l0, l1, l2, l3⟩, _⟩ := cells4 (H5.out.at (q := q) (List.mem_cons_of_mem _ (List.mem_cons_self ..)))
  obtain ⟨⟨m0, m1, m2, m3⟩, _⟩ := cells4 (H5.out.at (q := q3) (List.mem_cons_self ..))
  go_wp2_with (first | (go_at_call 13; refine (C6.out _).mono ?_; rintro e w1 ⟨rfl, rfl⟩) | (go_at_call 14; refine (C7.out _).mono ?_; rintro e w1 ⟨rfl, rfl⟩))
  go_ret
  exact ⟨rfl, H5.out.below⟩
end Go.Proofs.YtfcmcccfclaefaaDoor
