/- The reference's Show. -/
import Derived.Test.YtgaaalacoeainaaLr4
namespace Go.Proofs.Ytgaaalacoeainaa
open Go.RowKit

theorem rindexk (t : List UInt8) (k : Nat) (h : k < t.length) (V : World) : (Instr.index 9 (.string (str t)) (.int .i64 (k : Int))).run Try.prog V = .ok (.int .u8 ((t[k]'h).toNat : Nat)) V := by
  rw [run_index_string V _ _ _ _ Try.underlying9, dif_pos ⟨by omega, by rw [str_size]; omega⟩]
  have e : (k : Int).toNat = k := Int.toNat_natCast k
  simp only [e, str_get]
theorem hexS_cut : ∀ d, d < 16 → hexS.extract d (d + 1) = str [hexD d] := by decide +kernel
theorem rhexS (d : Nat) (h : d < 16) (V : World) : (Instr.slice 9 (.string ⟨#[48, 49, 50, 51, 52, 53, 54, 55, 56, 57, 97, 98, 99, 100, 101, 102]⟩) (some (.int .i64 (d : Int))) (some (.int .i64 ((d : Int) + 1))) none).run Try.prog V = .ok (.string (str [hexD d])) V := by
  have hs : hexS.size = 16 := rfl
  have e := run_slice_string (P := Try.prog) V 9 hexS .i64 .i64 (d : Int) ((d : Int) + 1) Try.underlying9 (by omega) (by omega) (by omega)
  rw [show ((d : Int) + 1).toNat = d + 1 by omega, Int.toNat_natCast, hexS_cut d h] at e
  exact e
set_option maxRecDepth 100000 in
set_option maxHeartbeats 4000000 in
theorem rshow_text (t : List UInt8) (ht : t.length ≤ 800000000) (w : World) : Calls Try.prog 18 #[.agg #[.bool false, .string (str t), .slice none 0 0]] w fun e w' => e = .returned (.string (str (34 :: (hexL t ++ [34])))) ∧ Below w.heap.size w w' := by
  have HB := Lib.hid (show RBox w (str t) (w.alloc (.cells #[.bool false, .string (str t), .slice none 0 0] 35)) from ⟨bel_al w (.cells #[.bool false, .string (str t), .slice none 0 0] 35), heap_alloc_new w (.cells #[.bool false, .string (str t), .slice none 0 0] 35)⟩)
  have hsz := str_size t
  go_enter Try.func18, Try.ntmps18
  go_wp2_with fail
  go_loopw [3, 4] (fun s i wr => ∃ k : Nat, s = .string (str (hexL (t.take k))) ∧ i = .int .i64 k ∧ k ≤ t.length ∧ RBox w (str t) wr) (fun _ i _ => t.length - (intOf i).toNat)
  case atStart => exact ⟨0, rfl, rfl, Nat.zero_le _, HB.out⟩
  case round =>
    clear HB
    obtain ⟨k, rfl, rfl, hk, hR⟩ := hrel
    obtain ⟨⟨b0, b1, b2⟩, _⟩ := cells3 hR.2
    by_cases hkl : k < t.length
    · have h1 : (k : Int) < ((str t).size : Int) := by omega
      have hix := rindexk t k hkl
      obtain ⟨c, hc⟩ : ∃ c, c = t[k] := ⟨_, rfl⟩
      rw [← hc] at hix
      have hcl := c.toNat_lt
      obtain ⟨x, hx⟩ : ∃ x, x = c.toNat / 16 := ⟨_, rfl⟩
      obtain ⟨y, hy⟩ : ∃ y, y = c.toNat % 16 := ⟨_, rfl⟩
      have e1 : IntKind.i64.wrap (c.toNat : Int) = (c.toNat : Int) := IntWalk.i64_in _ (by omega)
      have e2 : (c.toNat : Int) / 16 = (x : Int) := by omega
      have e3 : (c.toNat : Int) % 16 = (y : Int) := by omega
      have e7 : wrap64 (x : Int) = (x : Int) := IntWalk.wrap64_in _ (by omega)
      have e4 : IntKind.i64.wrap ((x : Int) + 1) = (x : Int) + 1 := IntWalk.i64_in _ (by omega)
      have e5 : IntKind.i64.wrap ((y : Int) + 1) = (y : Int) + 1 := IntWalk.i64_in _ (by omega)
      have e6 : IntKind.i64.wrap ((k : Int) + 1) = (k : Int) + 1 := IntWalk.i64_in _ (by omega)
      have hs1 := rhexS x (by omega)
      have hs2 := rhexS y (by omega)
      have HT := Lib.hid (show hexL (t.take (k + 1)) = hexL (t.take k) ++ [hexD x] ++ [hexD y] by
        rw [List.take_succ_eq_append_getElem hkl, hexL_snoc, ← hc, hx, hy])
      have hlen : (hexL (t.take k)).length = 2 * k := by rw [hexL_len, List.length_take]; omega
      have a1 := str_append (hexL (t.take k)) [hexD x]
      have a2 := str_append (hexL (t.take k) ++ [hexD x]) [hexD y]
      have q1 : ¬ 9223372036854775807 < (str (hexL (t.take k))).size + (str [hexD x]).size := by rw [str_size, str_size, hlen]; simp; omega
      have q2 : ¬ 9223372036854775807 < (str (hexL (t.take k) ++ [hexD x])).size + (str [hexD y]).size := by rw [str_size, str_size, List.length_append, hlen]; simp; omega
      have HR := Lib.hid hR
      clear hR hc hcl hx hy hlen hsz
      rw [← HT.out] at a2
      obtain ⟨s3, hs3⟩ : ∃ s3, s3 = hexL (t.take (k + 1)) := ⟨_, rfl⟩
      rw [← hs3] at a2
      have HS := Lib.hid hs3
      clear HT hs3
      generalize hexL (t.take k) ++ [hexD x] = s2 at *
      generalize hexL (t.take k) = s1 at *
      go_wp2_with fail
      go_quiet (fail)
      go_wp2_with fail
      go_roundw
      case rel => exact ⟨k + 1, by rw [HS.out], by go_num, by omega, ((Only.of_below HR.out.1 (may := fun _ => False)).drewN _).below (Nat.le_refl _) (fun _ _ h => h), HR.out.2⟩
      case measure => simp [intOf]; omega
    · have h1 : ¬ (k : Int) < ((str t).size : Int) := by omega
      obtain rfl : k = t.length := by omega
      rw [List.take_length]
      have a1 : (⟨#[34]⟩ : ByteArray) ++ str (hexL t) = str (34 :: hexL t) := str_append [34] (hexL t)
      have a2 : str (34 :: hexL t) ++ (⟨#[34]⟩ : ByteArray) = str (34 :: (hexL t ++ [34])) := str_append (34 :: hexL t) [34]
      have hl := hexL_len t
      have q1 : ¬ 9223372036854775807 < (⟨#[34]⟩ : ByteArray).size + (str (hexL t)).size := by rw [str_size, hl]; show ¬ _ < 1 + _; omega
      have q2 : ¬ 9223372036854775807 < (str (34 :: hexL t)).size + (⟨#[34]⟩ : ByteArray).size := by rw [str_size, List.length_cons, hl]; show ¬ _ < _ + 1; omega
      have HB := Lib.hid hR.1
      clear hR hl hsz
      generalize str (34 :: hexL t) = s2 at *
      obtain ⟨s3, hs3⟩ : ∃ s3, s3 = str (34 :: (hexL t ++ [34])) := ⟨_, rfl⟩
      rw [← hs3] at a2
      have HS := Lib.hid hs3
      clear hs3
      generalize str (hexL t) = s1 at *
      go_wp2_with fail
      go_ret
      exact ⟨by rw [← HS.out]; rfl, HB.out⟩
theorem Fo.sho_app (f g : Fo) : ∀ gap : List UInt8, (f.app g).sho gap = f.sho gap ++ g.sho (if f.len = 0 then gap else [32]) := by
  induction f with
  | nil => intro gap; rfl
  | text s r ih => intro gap; simp only [Fo.app, Fo.sho, ih, Fo.len]; by_cases h : r.len = 0 <;> simp [h]
  | list i r _ ih => intro gap; simp only [Fo.app, Fo.sho, ih, Fo.len]; by_cases h : r.len = 0 <;> simp [h]
theorem It.sho_gap (x : It) (g : List UInt8) : (x.fo .nil).sho g = g ++ x.sho := by cases x <;> simp [It.sho, It.fo, Fo.sho]
/-- What is known of Show for each item. -/
def RShoC (x : It) : Prop := x.enc.length ≤ 100000 → ∀ (S : Nat → Prop) (v : Value) (w : World), (∀ k, S k → k < w.heap.size) → ItV S x v w → Calls Try.prog 18 #[v] w fun e w' => e = .returned (.string (str x.sho)) ∧ Below w.heap.size w w'
/-- What is known at the head of each round. -/
structure RShoS (w : World) (a : Option Addr) (n c : Nat) (S : Nat → Prop) (f : Fo) (k : Nat) (s : List UInt8) (W : World) : Prop where
  below : Below w.heap.size w W
  box : W.heap[w.heap.size]? = some (.cells #[.bool true, .string ⟨#[]⟩, .slice a n c] 35 (0, 0))
  it : ∃ done rest : Fo, s = 91 :: done.sho [] ∧ done.len = k ∧ f = done.app rest ∧ rest.All RShoC ∧ (rest = .nil ∨ ∃ g o, a = some ⟨g, o, none⟩ ∧ S g ∧ rest.At S g (o + 3 * k) w)
set_option maxRecDepth 100000 in
set_option maxHeartbeats 8000000 in
theorem rshow_go {a : Option Addr} {n c : Nat} {f : Fo} {S : Nat → Prop} (w : World) (hn : f.len = n) (hlen : f.enc.length ≤ 100000) (hA : f.All RShoC) (hS : ∀ k, S k → k < w.heap.size)
    (hAt : f = .nil ∨ ∃ g o, a = some ⟨g, o, none⟩ ∧ S g ∧ f.At S g o w) :
    Calls Try.prog 18 #[.agg #[.bool true, .string ⟨#[]⟩, .slice a n c]] w fun e w' => e = .returned (.string (str (91 :: (f.sho [] ++ [93])))) ∧ Below w.heap.size w w' := by
  have hn5 : n ≤ 100000 := by have := f.len_enc; omega
  have HO := Lib.hid (show RShoS w a n c S f 0 [91] (w.alloc (.cells #[.bool true, .string ⟨#[]⟩, .slice a n c] 35)) from
    ⟨bel_al w _, heap_alloc_new _ _, .nil, f, rfl, rfl, rfl, hA, by simpa using hAt⟩)
  have HN := Lib.hid (And.intro hn (And.intro hS hlen))
  clear hn hlen hA hS hAt
  go_enter Try.func18, Try.ntmps18
  go_wp2_with fail
  go_loopw [7, 8] (fun s i wr => ∃ (k : Nat) (l : List UInt8), s = .string (str l) ∧ i = .int .i64 k ∧ RShoS w a n c S f k l wr) (fun _ i _ => n - (intOf i).toNat)
  case atStart => exact ⟨0, [91], rfl, rfl, HO.out⟩
  case round =>
    clear HO
    obtain ⟨k, l, rfl, rfl, hR⟩ := hrel
    obtain ⟨done, rest, rfl, hO3, hO4, hO5, hO7⟩ := hR.it
    obtain ⟨⟨b0, b1, b2⟩, _⟩ := cells3 hR.box
    have hdl : (done.sho []).length ≤ 500000 := by
      have h1 := done.sho_len []
      have h2 := HN.out.2.2
      rw [hO4, Fo.enc_app, List.length_append] at h2
      simp at h1; omega
    rcases rest.cases_it with rfl | ⟨x, r, rfl⟩
    · have hkn : ¬ (k : Int) < (n : Int) := by
        have := HN.out.1
        rw [hO4, Fo.len_app, hO3, show Fo.len .nil = 0 from rfl] at this
        omega
      rw [Fo.app_nil] at hO4
      subst hO4
      have a1 : str (91 :: f.sho []) ++ (⟨#[93]⟩ : ByteArray) = str (91 :: (f.sho [] ++ [93])) := str_append (91 :: f.sho []) [93]
      have q1 : ¬ 9223372036854775807 < (str (91 :: f.sho [])).size + (⟨#[93]⟩ : ByteArray).size := by rw [str_size, List.length_cons]; show ¬ _ < _ + 1; omega
      obtain ⟨s3, hs3⟩ : ∃ s3, s3 = str (91 :: (f.sho [] ++ [93])) := ⟨_, rfl⟩
      rw [← hs3] at a1
      have HS := Lib.hid hs3
      have HB := Lib.hid hR.below
      clear hR hO3 hO5 hO7 hdl hs3
      generalize str (91 :: f.sho []) = s1 at *
      go_wp2_with fail
      go_ret
      exact ⟨by rw [← HS.out]; rfl, HB.out⟩
    · have hkl : k < n := by
        have := HN.out.1
        rw [hO4, Fo.len_app, hO3, fo_len] at this
        omega
      obtain ⟨g, o, rfl, hg, hat⟩ : ∃ g o, a = some ⟨g, o, none⟩ ∧ S g ∧ (x.fo r).At S g (o + 3 * k) w := by
        rcases hO7 with h | h
        · cases x <;> cases h
        · exact h
      obtain ⟨e0, e1, e2, e3, e4, f0, f1, f2, hx, hr⟩ := At_cons hat
      rw [show o + 3 * k = o + k * 3 by omega] at f0 f1 f2
      obtain ⟨hP, hrA⟩ := Fo.all_cons hO5
      have hfl : done.enc.length + (x.enc.length + r.enc.length) ≤ 100000 := by
        have := HN.out.2.2
        rw [hO4, Fo.enc_app, fo_enc, List.length_append, List.length_append] at this
        exact this
      have hxs := x.sho_len
      have hb := hR.below
      have f0' := (World.cell?_of_block (hb.block g (HN.out.2.1 g hg))).trans f0
      have f1' := (World.cell?_of_block (hb.block g (HN.out.2.1 g hg))).trans f1
      have f2' := (World.cell?_of_block (hb.block g (HN.out.2.1 g hg))).trans f2
      have HC := Lib.hid (hP (by omega) S _ wr (fun i hi => Nat.lt_of_lt_of_le (HN.out.2.1 i hi) hb.size) (hx.kept (W' := wr) (fun i hi => hb.block i (HN.out.2.1 i hi))))
      have hki : (k : Int) < (n : Int) := by omega
      have hki0 : (0 : Int) ≤ (k : Int) ∧ (k : Int) < (n : Int) := by omega
      have hw : IntKind.i64.wrap ((k : Int) + 1) = (k : Int) + 1 := IntWalk.i64_in _ (by omega)
      have HQ := Lib.hid (show ∀ w1, Below wr.heap.size wr w1 → RShoS w (some ⟨g, o, none⟩) n c S f (k + 1) (91 :: (done.app (x.fo .nil)).sho []) w1 from fun w1 hb1 =>
        ⟨hb.trans (hb1.mono hb.size), (hb1.block _ (lt_of hR.box)).trans hR.box, done.app (x.fo .nil), r, rfl, by rw [Fo.len_app, show (x.fo .nil).len = 1 by cases x <;> rfl, hO3], by rw [hO4, fo_app x r, Fo.app_assoc], hrA,
          Or.inr ⟨g, o, rfl, hg, by rw [show o + 3 * (k + 1) = o + 3 * k + 3 by omega]; exact hr⟩⟩)
      by_cases hk0 : k = 0
      · have hgt : ¬ (0 : Int) < (k : Int) := by omega
        have hd : done = .nil := by cases done <;> simp [Fo.len] at hO3 <;> first | rfl | omega
        subst hd
        have ht : 91 :: (Fo.nil.app (x.fo .nil)).sho [] = (91 :: Fo.nil.sho []) ++ x.sho := by show 91 :: (x.fo .nil).sho [] = [91] ++ x.sho; rfl
        rw [ht] at HQ
        have he := str_append (91 :: Fo.nil.sho []) x.sho
        have hsum : ¬ 9223372036854775807 < (str (91 :: Fo.nil.sho [])).size + (str x.sho).size := by rw [str_size, str_size, List.length_cons]; omega
        clear hR hO3 hO4 hO5 hO7 hP hrA hx hr hat f0 f1 f2 hfl hb hxs hdl ht
        clear hk0
        generalize (91 :: Fo.nil.sho []) ++ x.sho = de at *
        generalize str (91 :: Fo.nil.sho []) = td at *
        generalize str x.sho = tx at *
        go_wp2_with fail
        go_at_call 18
        refine HC.out.mono ?_
        rintro e w1 ⟨rfl, hb⟩
        have HQ1 := Lib.hid (HQ.out _ hb)
        clear hb HQ HC f0' f1' f2' b0 b1 b2
        go_wp2_with fail
        go_roundw
        case rel => exact ⟨k + 1, de, rfl, by go_num, HQ1.out⟩
        case measure => simp [intOf]; omega
      · have hgt : (0 : Int) < (k : Int) := by omega
        have ht : 91 :: (done.app (x.fo .nil)).sho [] = ((91 :: done.sho []) ++ [32]) ++ x.sho := by
          rw [Fo.sho_app, if_neg (by omega), It.sho_gap]; simp
        rw [ht] at HQ
        have he1 : str (91 :: done.sho []) ++ (⟨#[32]⟩ : ByteArray) = str ((91 :: done.sho []) ++ [32]) := str_append (91 :: done.sho []) [32]
        have he := str_append ((91 :: done.sho []) ++ [32]) x.sho
        have hsum1 : ¬ 9223372036854775807 < (str (91 :: done.sho [])).size + (⟨#[32]⟩ : ByteArray).size := by rw [str_size, List.length_cons]; show ¬ _ < _ + 1; omega
        have hsum : ¬ 9223372036854775807 < (str ((91 :: done.sho []) ++ [32])).size + (str x.sho).size := by rw [str_size, str_size, List.length_append, List.length_cons, List.length_singleton]; omega
        clear hR hO3 hO4 hO5 hO7 hP hrA hx hr hat f0 f1 f2 hfl hb hxs hdl ht
        generalize ((91 :: done.sho []) ++ [32]) ++ x.sho = de at *
        generalize str ((91 :: done.sho []) ++ [32]) = te at *
        generalize str (91 :: done.sho []) = td at *
        generalize str x.sho = tx at *
        go_wp2_with fail
        go_at_call 18
        refine HC.out.mono ?_
        rintro e w1 ⟨rfl, hb⟩
        have HQ1 := Lib.hid (HQ.out _ hb)
        clear hb HQ HC f0' f1' f2' b0 b1 b2
        go_wp2_with fail
        go_roundw
        case rel => exact ⟨k + 1, de, rfl, by go_num, HQ1.out⟩
        case measure => simp [intOf]; omega
/-- What the reference's Show does. -/
theorem rshow_c (x : It) : RShoC x := by
  refine It.all_of (P := RShoC) (fun s hl S v w hS hv => ?_) (fun i hi hl S v w hS hv => ?_) x
  · obtain rfl : v = .agg #[.bool false, .string (str s), .slice none 0 0] := hv
    have e : (It.text s).sho = 34 :: (hexL s ++ [34]) := by simp [It.sho, It.fo, Fo.sho]
    rw [e]
    exact rshow_text s (by have : s.length ≤ (encT s).length := by simp [encT]
                           have h2 : (encT s).length ≤ 100000 := hl
                           omega) w
  · obtain ⟨u, rfl, hu⟩ := hv
    have e : (It.list i).sho = 91 :: (i.sho [] ++ [93]) := by simp [It.sho, It.fo, Fo.sho]
    rw [e]
    have hil : i.enc.length ≤ 100000 := by simp [It.enc] at hl; omega
    rcases hu with ⟨rfl, rfl⟩ | ⟨g, o, c, rfl, hg, hc, ha⟩
    · exact rshow_go (f := .nil) (S := S) w rfl (by simp [Fo.enc]) trivial hS (Or.inl rfl)
    · exact rshow_go (f := i) (S := S) w rfl hil hi hS (Or.inr ⟨g, o, rfl, hg, ha⟩)
end Go.Proofs.Ytgaaalacoeainaa
