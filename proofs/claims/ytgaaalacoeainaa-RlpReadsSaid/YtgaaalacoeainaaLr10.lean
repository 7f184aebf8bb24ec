/- The reference's take of a list. -/
import Derived.Test.YtgaaalacoeainaaLr9
namespace Go.Proofs.Ytgaaalacoeainaa
open Go.RowKit

/-- What is known at the head of each round. -/
structure RTakeS (p : List UInt8 → Option (Fo × List UInt8)) (x : List UInt8) (w : World) (rest : List UInt8) (W : World) : Prop where
  below : Below w.heap.size w W
  res : W.heap[w.heap.size]? = some (.cells #[.bool false, .string ⟨#[]⟩, .slice none 0 0] 35 (0, 0))
  it : ∃ (f : Fo) (v : Value) (m : Nat), W.heap[w.heap.size + 1]? = some (.cells #[.bool true, .string ⟨#[]⟩, v] 35 (0, 0)) ∧ OwnR (w.heap.size + 2) f v W ∧ rest.length ≤ m ∧ f.len + rest.length ≤ x.length ∧
    itemsP p x.length x = (itemsP p m rest).map (f.app ·)
def strLen : Value → Nat
  | .string s => s.size
  | _ => 0
theorem rcut_from (s r : List UInt8) (k : Nat) (hk : k ≤ s.length) (hd : s.drop k = r) (V : World) : (Instr.slice 9 (.string (str s)) (some (.int .i64 (k : Int))) none none).run Try.prog V = .ok (.string (str r)) V := by
  rw [run_slice_string_l V _ _ Try.underlying9 .i64 _ (by omega) (by rw [str_size]; omega), Int.toNat_natCast, str_drop, hd]
/-- A list out of its items. -/
def listO (r' : List UInt8) : Option Fo → Option (Fo × List UInt8)
  | none => none
  | some f => some (.list f .nil, r')
set_option maxRecDepth 100000 in
set_option maxHeartbeats 8000000 in
theorem rtake_list {d : Nat} (IH : RTakeC d) (b : UInt8) (r x r' : List UInt8) (h n : Nat) (hb : ¬ b.toNat < 192) (hn : n + (d + 1) = 65) (hl : (b :: r).length ≤ 70000) (hh : h ≤ (b :: r).length) (hd : (b :: r).drop h = x ++ r') (w : World)
    (HS : ∀ V, Calls Try.prog 55 #[.string (str (b :: r))] V fun e w' => e = .returned (.tuple #[.int .i64 (h : Nat), .int .i64 (x.length : Nat), .bool true]) ∧ w' = V) :
    Calls Try.prog 41 #[.string (str (b :: r)), .int .i64 n] w (RTakeR (b :: r) (listO r' (itemsP (itemP d) x.length x)) w) := by
  replace HS := Lib.hid HS
  have hni : ¬ (64 : Int) < (n : Int) := by omega
  have hbi : ¬ (b.toNat : Int) < 192 := by omega
  have hix := rindex0 b r
  have hcut := rcut (b :: r) x r' h hh hd
  have hlen : (b :: r).length = h + x.length + r'.length := by
    have := congrArg List.length hd
    rw [List.length_drop, List.length_append] at this; omega
  have hMs : (h : Int) + (x.length : Int) = ((h + x.length : Nat) : Int) := by omega
  have hdr : (b :: r).drop ((b :: r).length - r'.length) = r' := by
    rw [show (b :: r).length - r'.length = h + x.length by omega, ← List.drop_drop, hd]; simp
  have hM : (b :: r).length - r'.length = h + x.length := by omega
  have hMb : h + x.length ≤ 70000 := by omega
  have hxb : x.length ≤ 70000 := by omega
  obtain ⟨n1, hn1'⟩ : ∃ n1, n1 = n + 1 := ⟨_, rfl⟩
  have hn1 : (n : Int) + 1 = (n1 : Int) := by omega
  have hn65 : n ≤ 64 := by omega
  have HC := Lib.hid (fun s W hs => IH n1 s W (by omega) hs)
  have HO := Lib.hid (show RTakeS (itemP d) x w x ((w.alloc (.cells #[.bool false, .string ⟨#[]⟩, .slice none 0 0] 35)).alloc (.cells #[.bool true, .string ⟨#[]⟩, .slice none 0 0] 35)) from
    ⟨(bel_al _ _).trans ((bel_al _ _).mono (by simp)), by rw [Below.heap_alloc _ _ _ (by simp)]; exact heap_alloc_new _ _,
      .nil, .slice none 0 0, x.length, by have := heap_alloc_new (w.alloc (.cells #[.bool false, .string ⟨#[]⟩, .slice none 0 0] 35)) (.cells #[.bool true, .string ⟨#[]⟩, .slice none 0 0] 35); rwa [show (w.alloc (.cells #[.bool false, .string ⟨#[]⟩, .slice none 0 0] 35)).heap.size = w.heap.size + 1 by simp] at this,
      OwnR.nil _ _, Nat.le_refl _, by simp [Fo.len], by simp [Fo.app]⟩)
  have HE := Lib.hid (show ∀ (f : Fo) (u : Value) (w' : World), itemsP (itemP d) x.length x = some f → Below w.heap.size w w' → SlF (fun k => w.heap.size ≤ k ∧ k < w'.heap.size) f u w' → RTakeR (b :: r) (listO r' (itemsP (itemP d) x.length x)) w (.returned (.tuple #[.agg #[.bool true, .string ⟨#[]⟩, u], .int .i64 ((h + x.length : Nat) : Int), .bool true])) w' from fun f u w' hf hb hu => by
    rw [hf]
    exact ⟨hb, .list f, _, rfl, ⟨_, rfl, hu⟩, by rw [hM], hdr⟩)
  have HZ := Lib.hid (show ∀ (w' : World), itemsP (itemP d) x.length x = none → Below w.heap.size w w' → RTakeR (b :: r) (listO r' (itemsP (itemP d) x.length x)) w (.returned (.tuple #[.agg #[.bool false, .string ⟨#[]⟩, .slice none 0 0], .int .i64 0, .bool false])) w' from fun w' hf hb => by
    rw [hf]
    exact ⟨hb, rfl⟩)
  have HX := Lib.hid hxb
  clear hlen hdr hM hd hl hh hn IH hxb hb hn1'
  generalize listO r' (itemsP (itemP d) x.length x) = O at *
  generalize str (b :: r) = t at *
  generalize b.toNat = bn at *
  generalize h + x.length = M at *
  obtain ⟨N, hN⟩ : ∃ N, N = x.length := ⟨_, rfl⟩
  rw [← hN] at hMs HS
  have HNx := Lib.hid hN
  clear hN
  go_enter Try.func41, Try.ntmps41
  go_wp2_with fail
  go_at_call 55
  refine (HS.out _).mono ?_
  rintro e w1 ⟨rfl, rfl⟩
  clear HS
  go_wp2_with fail
  go_loopw [10] (fun v wr => ∃ rest, v = .string (str rest) ∧ RTakeS (itemP d) x w rest wr) (fun v _ => strLen v)
  case atStart => exact ⟨x, rfl, HO.out⟩
  case round =>
    clear HO hcut hix
    obtain ⟨rest, rfl, hS⟩ := hrel
    obtain ⟨f, vv, m, hO1, hO2, hO3, hO4, hO5⟩ := hS.it
    obtain ⟨av, nv, cv, rfl⟩ := hO2.sl.form
    rcases rest with _ | ⟨b', s'⟩
    · have he : itemsP (itemP d) x.length x = some f := by
        rw [hO5]
        rcases m with _ | m <;> simp [itemsP, Fo.app_nil]
      have hz0 : ((str []).size : Int) = 0 := rfl
      obtain ⟨⟨c0, c1, c2⟩, z0, z1, z2⟩ := cells3 hO1
      obtain ⟨⟨y0, y1, y2⟩, x0, x1, x2⟩ := cells3 hS.res
      have hset := heap_set3 hS.res (.bool true) (.string ⟨#[]⟩) (.slice av nv cv)
      have hbs := below_set3 hS.below (Nat.le_refl _) (.bool true) (.string ⟨#[]⟩) (.slice av nv cv)
      obtain ⟨⟨p0, p1, p2⟩, _⟩ := cells3 hset
      have HR := Lib.hid (HE.out f (.slice av nv cv) (((wr.setCell ⟨w.heap.size, 0, none⟩ (.bool true)).setCell ⟨w.heap.size, 1, none⟩ (.string ⟨#[]⟩)).setCell ⟨w.heap.size, 2, none⟩ (.slice av nv cv)) he hbs (by
        refine (hO2.sl.kept (fun i hi => ?_)).mono (fun i hi => ⟨by omega, by simp [World.setCell]; omega⟩)
        rw [heap_setCell_other _ _ _ _ (by simp; omega), heap_setCell_other _ _ _ _ (by simp; omega), heap_setCell_other _ _ _ _ (by simp; omega)]))
      clear hO1 hO2 hO3 hO4 hO5 he hset hbs hS
      go_wp2_with fail
      exact bodyPost_ret (v := .tuple #[.agg #[.bool true, .string ⟨#[]⟩, .slice av nv cv], .int .i64 (M : Nat), .bool true]) (by simp [results, Try.results41, go_sem, p0, p1, p2]) rfl HR.out
    · have hps : (0 : Int) < ((str (b' :: s')).size : Int) := by rw [str_size, List.length_cons]; omega
      obtain ⟨m, rfl⟩ : ∃ k, m = k + 1 := ⟨m - 1, by simp at hO3; omega⟩
      have HQ := Lib.hid (HC.out (b' :: s') wr (by have := HX.out; omega))
      cases hp : itemP d (b' :: s') with
      | none =>
        rw [hp] at HQ
        have he : itemsP (itemP d) x.length x = none := by rw [hO5]; simp [itemsP, hp]
        have HR := Lib.hid (fun w' => HZ.out w' he)
        have HS2 := Lib.hid (And.intro hS.below hS.res)
        clear hO1 hO2 hO3 hO4 hO5 he hS hp
        generalize str (b' :: s') = tb at *
        go_wp2_with fail
        go_at_call 41
        refine HQ.out.mono ?_
        rintro e w1 ⟨hb1, rfl⟩
        have hres := (hb1.block _ (lt_of HS2.out.2)).trans HS2.out.2
        have hres2 := (Below.heap_alloc w1 (.cells #[.bool false, .string ⟨#[]⟩, .slice none 0 0] 35) _ (lt_of hres)).trans hres
        have hbel := (HS2.out.1.trans (hb1.mono HS2.out.1.size)).alloc (Nat.le_trans HS2.out.1.size hb1.size) (.cells #[.bool false, .string ⟨#[]⟩, .slice none 0 0] 35)
        obtain ⟨_, x0, x1, x2⟩ := cells3 hres2
        have hset := heap_set3 hres2 (.bool false) (.string ⟨#[]⟩) (.slice none 0 0)
        have hbs := Lib.hid (below_set3 hbel (Nat.le_refl _) (.bool false) (.string ⟨#[]⟩) (.slice none 0 0))
        obtain ⟨⟨p0, p1, p2⟩, _⟩ := cells3 hset
        clear hset hbel hres hres2 hb1 HS2 HQ
        go_wp2_with fail
        exact bodyPost_ret (v := .tuple #[.agg #[.bool false, .string ⟨#[]⟩, .slice none 0 0], .int .i64 0, .bool false]) (by simp [results, Try.results41, go_sem, p0, p1, p2]) rfl (HR.out _ hbs.out)
      | some q =>
        obtain ⟨f1, r1⟩ := q
        rw [hp] at HQ
        have hrl := itemP_lt hp
        have he : itemsP (itemP d) x.length x = (itemsP (itemP d) m r1).map ((f.app f1).app ·) := by
          rw [hO5]
          simp only [itemsP, hp]
          cases itemsP (itemP d) m r1 <;> simp [Fo.app_assoc]
        obtain ⟨k1, hk1⟩ : ∃ k1, k1 = (b' :: s').length - r1.length := ⟨_, rfl⟩
        have hkl : k1 ≤ (b' :: s').length := by omega
        have HK := Lib.hid (And.intro hk1 hkl)
        have hsz := str_size (b' :: s')
        have HN2 := Lib.hid (And.intro hO3 (And.intro hO4 (And.intro hrl (And.intro he hsz))))
        have HW := Lib.hid (And.intro hO1 (And.intro hO2 hS))
        have HCUT := Lib.hid (fun hdrop => rcut_from (b' :: s') r1 k1 hkl hdrop)
        clear hO1 hO2 hO3 hO4 hO5 he hS hp hrl hkl hsz hk1
        generalize str (b' :: s') = tb at *
        go_wp2_with fail
        go_at_call 41
        refine HQ.out.mono ?_
        rintro e w1 ⟨hb, it, v, hit, hv, rfl, hdrop⟩
        rw [← HK.out.1] at hdrop
        have hcut2 := HCUT.out hdrop
        rw [← HK.out.1]
        obtain ⟨b2, t2, a2, n2, q2, hf⟩ := hv.form
        obtain ⟨b3, t3, l3, hf2, hone, hcel⟩ := hv.cel
        rw [hf] at hf2
        obtain ⟨rfl, rfl, rfl⟩ : b2 = b3 ∧ t2 = t3 ∧ .slice a2 n2 q2 = l3 := by simpa using hf2
        subst hf
        clear hf2 hdrop HCUT HQ
        have hO1 := HW.out.1
        have hO2 := HW.out.2.1
        have hS := HW.out.2.2
        have hob : wr.heap.size ≤ w1.heap.size := hb.size
        have hlt1 := lt_of hO1
        have c2 : (w1.alloc (.cells #[.bool b2, .string t2, .slice a2 n2 q2] 35)).cell? ⟨w.heap.size + 1, 2, none⟩ = some (.slice av nv cv) := by
          rw [cell_of ((Below.heap_alloc _ _ _ (by omega)).trans ((hb.block _ hlt1).trans hO1)) 2]; rfl
        have hsa : ((w1.alloc (.cells #[.bool b2, .string t2, .slice a2 n2 q2] 35)).alloc (.cells #[.bool b2, .string t2, .slice a2 n2 q2] 35)).heap.size = w1.heap.size + 2 := by simp
        have hal : ∀ i, i < w1.heap.size → ((w1.alloc (.cells #[.bool b2, .string t2, .slice a2 n2 q2] 35)).alloc (.cells #[.bool b2, .string t2, .slice a2 n2 q2] 35)).heap[i]? = w1.heap[i]? := fun i hi => (Below.heap_alloc _ _ _ (by rw [alloc_size]; omega)).trans (Below.heap_alloc _ _ _ hi)
        have hzz : ((w1.alloc (.cells #[.bool b2, .string t2, .slice a2 n2 q2] 35)).alloc (.cells #[.bool b2, .string t2, .slice a2 n2 q2] 35)).heap[w1.heap.size + 1]? = some (.cells #[.bool b2, .string t2, .slice a2 n2 q2] 35 (0, 0)) := by
          have := heap_alloc_new (w1.alloc (.cells #[.bool b2, .string t2, .slice a2 n2 q2] 35)) (.cells #[.bool b2, .string t2, .slice a2 n2 q2] 35)
          rwa [alloc_size] at this
        have hown : OwnR (w.heap.size + 2) f (.slice av nv cv) ((w1.alloc (.cells #[.bool b2, .string t2, .slice a2 n2 q2] 35)).alloc (.cells #[.bool b2, .string t2, .slice a2 n2 q2] 35)) := hO2.kept (fun i _ hi => (hal i (by omega)).trans (hb.block i hi)) (by omega)
        have hSS : ∀ i, (wr.heap.size ≤ i ∧ i < w1.heap.size) → w.heap.size + 2 ≤ i ∧ i < ((w1.alloc (.cells #[.bool b2, .string t2, .slice a2 n2 q2] 35)).alloc (.cells #[.bool b2, .string t2, .slice a2 n2 q2] 35)).heap.size ∧ (Value.slice av nv cv).ownBlock ≠ some i := fun i hi =>
          ⟨by omega, by omega, fun e => by have := (hO2.blk i e).2; omega⟩
        have hcel2 := hcel.kept (W' := ((w1.alloc (.cells #[.bool b2, .string t2, .slice a2 n2 q2] 35)).alloc (.cells #[.bool b2, .string t2, .slice a2 n2 q2] 35))) (fun i hi => hal i hi.2) _ _
        have hout : ((w1.alloc (.cells #[.bool b2, .string t2, .slice a2 n2 q2] 35)).alloc (.cells #[.bool b2, .string t2, .slice a2 n2 q2] 35)).heap[w.heap.size + 1]? = some (.cells #[.bool true, .string ⟨#[]⟩, .slice av nv cv] 35 (0, 0)) := (hal _ (by omega)).trans ((hb.block _ hlt1).trans hO1)
        have hres : ((w1.alloc (.cells #[.bool b2, .string t2, .slice a2 n2 q2] 35)).alloc (.cells #[.bool b2, .string t2, .slice a2 n2 q2] 35)).heap[w.heap.size]? = some (.cells #[.bool false, .string ⟨#[]⟩, .slice none 0 0] 35 (0, 0)) := (hal _ (by omega)).trans ((hb.block _ (by omega)).trans hS.res)
        have hbel : Below w.heap.size w ((w1.alloc (.cells #[.bool b2, .string t2, .slice a2 n2 q2] 35)).alloc (.cells #[.bool b2, .string t2, .slice a2 n2 q2] 35)) := hS.below.trans ((hb.mono hS.below.size).trans ⟨by rfl, by rfl, by rfl, by omega, fun i hi => hal i (by have := hS.below.size; omega)⟩)
        have HV := Lib.hid (And.intro hzz (And.intro hown (And.intro hSS (And.intro hone (And.intro hcel2 (by omega : w.heap.size + 2 ≤ ((w1.alloc (.cells #[.bool b2, .string t2, .slice a2 n2 q2] 35)).alloc (.cells #[.bool b2, .string t2, .slice a2 n2 q2] 35)).heap.size))))))
        have HO := Lib.hid (And.intro hout (And.intro hres (And.intro hbel hit)))
        clear hone hcel hb hv hO1 hO2 hS hlt1 hob hsa hal hzz hown hSS hcel2 hout hres hbel hit
        go_wp2_with (at_builtin; refine wpList_append_itemR (by rfl) _ _ (by rfl) (w.heap.size + 2) (.slice av nv cv) f it b2 t2 (.slice a2 n2 q2) (fun k => wr.heap.size ≤ k ∧ k < w1.heap.size) (by rfl) HV.out.2.1 HV.out.2.2.1 HV.out.2.2.2.1 HV.out.2.2.2.2.1 (w1.heap.size + 1) (by rfl) HV.out.1 HV.out.2.2.2.2.2 (by have := HN2.out.2.1; have := HX.out; omega) ?_; intro v2 w2 hown2 hgr _hbl; obtain ⟨av', nv', cv', rfl⟩ := hown2.sl.form; have hout2 := (hgr.block (w.heap.size + 1) (lt_of HO.out.1) (fun e => by have := HV.out.2.1.blk _ e.symm; omega)).trans HO.out.1; have hres2 := (hgr.block w.heap.size (by have := lt_of HO.out.1; omega) (fun e => by have := HV.out.2.1.blk _ e.symm; omega)).trans HO.out.2.1; have hbel2 := HO.out.2.2.1.trans (Only.below (Only.grown (may := fun _ => False) (B := w.heap.size) hgr (fun i e => by have := (HV.out.2.1.blk i e).1; omega) HO.out.2.2.1.size) (Nat.le_refl _) (fun _ _ h => h)); obtain ⟨⟨_, _, y2⟩, _, _, z2⟩ := cells3 hout2; have HG := Lib.hid (And.intro hown2 (And.intro hout2 (And.intro hres2 hbel2))); clear hown2 hgr _hbl HV hout2 hres2 hbel2)
        have hout : (w2.setCell ⟨w.heap.size + 1, 2, none⟩ (.slice av' nv' cv')).heap[w.heap.size + 1]? = some (.cells #[.bool true, .string ⟨#[]⟩, .slice av' nv' cv'] 35 (0, 0)) := by
          have e := heap_setCell_same _ _ 2 _ _ (.slice av' nv' cv') HG.out.2.1
          simpa using e
        have hrl := HN2.out.2.2.1
        have ho3 := HN2.out.1
        have ho4 := HN2.out.2.1
        simp only [List.length_cons] at ho3 ho4 hrl
        refine ⟨⟨r1, rfl, HG.out.2.2.2.setCell (by simp) _, (heap_setCell_other _ _ _ _ (by simp)).trans HG.out.2.2.1, f.app (it.fo .nil), _, m, hout, ?_, by omega, ?_, ?_⟩, ?_⟩
        · exact HG.out.1.kept (fun i hi _ => heap_setCell_other _ _ _ _ (by simp; omega)) (by simp [World.setCell])
        · rw [Fo.len_app, show (it.fo .nil).len = 1 by cases it <;> rfl]; omega
        · rw [← HO.out.2.2.2]; exact HN2.out.2.2.2.1
        · show (str r1).size < tb.size
          rw [str_size, HN2.out.2.2.2.2]
          simp only [List.length_cons]; omega
set_option maxRecDepth 100000 in
/-- size answers, whatever it is asked. -/
theorem rsize_any (s : List UInt8) (hs : s.length ≤ 70000) (V : World) : Calls Try.prog 55 #[.string (str s)] V fun e w' => (∃ (p q : Int) (ok : Bool), e = .returned (.tuple #[.int .i64 p, .int .i64 q, .bool ok])) ∧ w' = V := by
  have hB : ∀ a o e, SizeB s a o e → ∃ (p q : Int) (ok : Bool), e = Ending.returned (.tuple #[.int .i64 p, .int .i64 q, .bool ok]) := by
    intro a o e h
    rcases o with _ | ⟨x, r⟩
    · obtain ⟨p, q, h⟩ := h; exact ⟨p, q, false, h⟩
    · obtain ⟨g, h, _⟩ := h; exact ⟨_, _, true, h⟩
  rcases s with _ | ⟨b, r⟩
  · exact (rsize_none V).mono fun e w' ⟨h1, h2⟩ => ⟨⟨_, _, _, h1⟩, h2⟩
  · by_cases h1 : b.toNat < 128
    · exact (rsize_one b r h1 V).mono fun e w' ⟨h1, h2⟩ => ⟨⟨_, _, _, h1⟩, h2⟩
    · by_cases h2 : b.toNat < 192
      · exact (rsize_128 b r ⟨by omega, h2⟩ (by rw [List.length_cons] at hs; omega) V).mono (fun e w' h => ⟨hB (b.toNat - 128) (bodyP (b.toNat - 128) r) e h.1, h.2⟩)
      · exact (rsize_192 b r (by omega) (by rw [List.length_cons] at hs; omega) V).mono (fun e w' h => ⟨hB (b.toNat - 192) (bodyP (b.toNat - 192) r) e h.1, h.2⟩)
theorem bodyP_at (b : UInt8) {a : Nat} {r x r' : List UInt8} (h : bodyP a r = some (x, r')) : ∃ g : Nat, (g = 1 ↔ a ≤ 55) ∧ g ≤ (b :: r).length ∧ (b :: r).drop g = x ++ r' := by
  unfold bodyP at h
  by_cases ha : a ≤ 55
  · rw [if_pos ha] at h
    obtain ⟨e, _⟩ := tk_spec h
    exact ⟨1, ⟨fun _ => ha, fun _ => rfl⟩, by simp, by simpa using e⟩
  · rw [if_neg ha] at h
    cases hk : tk (a - 55) r with
    | none => rw [hk] at h; cases h
    | some q =>
      obtain ⟨n, q⟩ := q
      rw [hk] at h
      simp only at h
      split at h
      · obtain ⟨e1, e2⟩ := tk_spec hk
        obtain ⟨e3, _⟩ := tk_spec h
        refine ⟨a - 55 + 1, ⟨fun h => by omega, fun h => absurd h ha⟩, ?_, ?_⟩
        · rw [e1, List.length_cons, List.length_append]; omega
        · rw [List.drop_succ_cons, e1, ← e3, ← e2]; simp
      · cases h
theorem same_drop {s : List UInt8} {y : List UInt8} {g g' : Nat} (h : g ≤ s.length) (h' : g' ≤ s.length) (e : s.drop g = y) (e' : s.drop g' = y) : g = g' := by
  have l1 := congrArg List.length e
  have l2 := congrArg List.length e'
  rw [List.length_drop] at l1 l2
  omega
set_option maxRecDepth 100000 in
/-- What take does, at every depth. -/
theorem rtake_c : ∀ d, RTakeC d := by
  intro d
  induction d with
  | zero =>
    intro n s w hn hs
    exact rtake_deep s n (by omega) w (rsize_any s hs)
  | succ d ih =>
    intro n s w hn hs
    rcases s with _ | ⟨b, r⟩
    · exact rtake_none [] n w (fun V => (rsize_none V).mono fun e w' ⟨h1, h2⟩ => ⟨⟨_, _, h1⟩, h2⟩)
    · show Calls _ _ _ _ (RTakeR (b :: r) (itemS (itemP d) (b :: r)) w)
      by_cases h1 : b.toNat < 128
      · have e : itemS (itemP d) (b :: r) = (if (0 : Nat) = 1 ∧ bareL [b] = true then none else some (.text [b] .nil, r)) := by
          rw [if_neg (fun h => absurd h.1 (by decide))]
          simp [itemS, h1]
        rw [e]
        exact rtake_text b r [b] r 0 n (by omega) (by omega) hs (Nat.zero_le _) rfl w (rsize_one b r h1)
      · by_cases h2 : b.toNat < 192
        · have HS := rsize_128 b r ⟨by omega, h2⟩ (by rw [List.length_cons] at hs; omega)
          have e : itemS (itemP d) (b :: r) = textS (bodyP (b.toNat - 128) r) := by simp [itemS, h1, h2]
          rw [e]
          cases hbd : bodyP (b.toNat - 128) r with
          | none =>
            rw [hbd] at HS
            exact rtake_none _ n w (fun V => (HS V).mono fun e w' ⟨g1, g2⟩ => ⟨g1, g2⟩)
          | some q =>
            obtain ⟨x, r'⟩ := q
            rw [hbd] at HS
            have hex : ∃ g : Nat, (∀ V, Calls Try.prog 55 #[.string (str (b :: r))] V fun e w' => e = .returned (.tuple #[.int .i64 (g : Nat), .int .i64 (x.length : Nat), .bool true]) ∧ w' = V) ∧ (g = 1 ↔ b.toNat - 128 ≤ 55) ∧ g ≤ (b :: r).length ∧ (b :: r).drop g = x ++ r' := by
              obtain ⟨g, g1, g2, g3⟩ := bodyP_at b hbd
              refine ⟨g, fun V => (HS V).mono fun e w' ⟨⟨g', k0, k1, k2, k3, _⟩, k4⟩ => ⟨?_, k4⟩, g1, g2, g3⟩
              rw [same_drop g2 k2 g3 k3]; exact k0
            obtain ⟨g, g0, g1, g2, g3⟩ := hex
            have ht : textS (some (x, r')) = (if g = 1 ∧ bareL x = true then none else some (.text x .nil, r')) := by
              by_cases h55 : b.toNat - 128 ≤ 55
              · simp only [textS, g1.2 h55, true_and]
              · have hx := bodyP_55 hbd h55
                have : bareL x = false := bareL_ne (by omega)
                simp [textS, this]
            rw [ht]
            exact rtake_text b r x r' g n h2 (by omega) hs g2 g3 w g0
        · have HS := rsize_192 b r (by omega) (by rw [List.length_cons] at hs; omega)
          have e : itemS (itemP d) (b :: r) = listS (itemP d) (bodyP (b.toNat - 192) r) := by simp [itemS, h1, h2]
          rw [e]
          cases hbd : bodyP (b.toNat - 192) r with
          | none =>
            rw [hbd] at HS
            exact rtake_none _ n w (fun V => (HS V).mono fun e w' ⟨g1, g2⟩ => ⟨g1, g2⟩)
          | some q =>
            obtain ⟨x, r'⟩ := q
            rw [hbd] at HS
            obtain ⟨g, g1, g2, g3⟩ := bodyP_at b hbd
            have HS2 : ∀ V, Calls Try.prog 55 #[.string (str (b :: r))] V fun e w' => e = .returned (.tuple #[.int .i64 (g : Nat), .int .i64 (x.length : Nat), .bool true]) ∧ w' = V := fun V => (HS V).mono fun e w' ⟨⟨g', k0, k1, k2, k3, _⟩, k4⟩ => ⟨by rw [same_drop g2 k2 g3 k3]; exact k0, k4⟩
            have ht : listS (itemP d) (some (x, r')) = listO r' (itemsP (itemP d) x.length x) := by
              simp only [listS]
              cases itemsP (itemP d) x.length x <;> rfl
            rw [ht]
            exact rtake_list ih b r x r' g n h2 hn hs g2 g3 w HS2
end Go.Proofs.Ytgaaalacoeainaa
