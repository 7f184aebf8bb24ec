/- The reader's item; both, at any depth. -/
import Derived.Test.YtgaaalacoeainaaLe
namespace Go.Proofs.Ytgaaalacoeainaa
open Go.RowKit

theorem item_zero : ItemC 0 := by
  intro g s n w hn hs h
  have hi : ¬ (n : Int) ≤ 64 := by omega
  go_enter Try.func39, Try.ntmps39
  go_wp2_with (go_at_call 40; refine (must_no _).mono ?_; rintro e w1 ⟨rfl, rfl⟩)
  exact ⟨rfl, (Only.refl _ _ _).alloc (Nat.le_refl _) _, rfl⟩
theorem index1 (b : UInt8) (W : World) : (Instr.index 9 (.string (str [b])) (.int .i64 0)).run Try.prog W = .ok (.int .u8 (b.toNat : Nat)) W := by
  rw [run_index_string W _ _ _ _ Try.underlying9, dif_pos ⟨by omega, by simp [str_size]⟩]
  rfl
/-- What item knows behind its first byte. -/
structure ItA (w : World) (g : Nat) (r : List UInt8) (W : World) : Prop where
  only : Only (fun k => k = g) w.heap.size w W
  rd : Rd g r W
  row : W.heap[w.heap.size]? = some (.cells #[.bool false, .string ⟨#[]⟩, .slice none 0 0] 27 (0, 0))
theorem ItA.lt {w : World} {g : Nat} {r : List UInt8} {W : World} (h : ItA w g r W) : w.heap.size < W.heap.size := lt_of h.row
theorem ItA.laterB {w : World} {g : Nat} {r : List UInt8} {W W' : World} (h : ItA w g r W) (hb : Below W.heap.size W W') : ItA w g r W' :=
  ⟨h.only.thenB hb, h.rd.later hb, (hb.block _ h.lt).trans h.row⟩
theorem ItA.laterO {w : World} {g : Nat} {r r' : List UInt8} {W W' : World} (hg : g < w.heap.size) (h : ItA w g r W) (ho : Only (fun k => k = g) W.heap.size W W') (hr : Rd g r' W') : ItA w g r' W' :=
  ⟨h.only.thenO ho, hr, (ho.block _ h.lt (by omega)).trans h.row⟩
theorem ItA.set {w : World} {g : Nat} {r : List UInt8} {W : World} (hg : g < w.heap.size) (h : ItA w g r W) (u0 u1 u2 : Value) :
    Only (fun k => k = g) w.heap.size w (((W.setCell ⟨w.heap.size, 0, none⟩ u0).setCell ⟨w.heap.size, 1, none⟩ u1).setCell ⟨w.heap.size, 2, none⟩ u2) ∧ Rd g r (((W.setCell ⟨w.heap.size, 0, none⟩ u0).setCell ⟨w.heap.size, 1, none⟩ u1).setCell ⟨w.heap.size, 2, none⟩ u2) := by
  refine ⟨((h.only.setCell (Or.inl (Nat.le_refl _)) _).setCell (Or.inl (Nat.le_refl _)) _).setCell (Or.inl (Nat.le_refl _)) _, ?_⟩
  have hb : Below w.heap.size W (((W.setCell ⟨w.heap.size, 0, none⟩ u0).setCell ⟨w.heap.size, 1, none⟩ u1).setCell ⟨w.heap.size, 2, none⟩ u2) := below_set3 (Below.refl _ _) (Nat.le_refl _) _ _ _
  exact (hb.block _ hg).trans h.rd
theorem takeOne {s : List UInt8} {b : UInt8} {r : List UInt8} (h : s = b :: r) : tk 1 s = some ([b], r) := by subst h; simp [tk]
set_option maxRecDepth 100000 in
set_option maxHeartbeats 1000000 in
theorem item_short (d : Nat) (g : Nat) (b : UInt8) (r : List UInt8) (hb : b.toNat < 128) (n : Nat) (w : World) (hn : n + (d + 1) = 65) (hs : (b :: r).length ≤ 100000) (h : Rd g (b :: r) w) :
    Calls Try.prog 39 #[.pointer (some ⟨g, 0, none⟩), .int .i64 n] w (ItR g w (some (.text [b] .nil, r))) := by
  have hi : (n : Int) ≤ 64 := by omega
  have hg := Lib.hid (lt_of h)
  have HR := Lib.hid h; clear h
  have HT := Lib.hid (fun W h => take_c g (b :: r) 1 (by omega) W h)
  rw [takeOne rfl] at HT
  have hx := index1 b
  have HB := Lib.hid (fun W => bare_c [b] W)
  rw [show bareL [b] = true by simpa [bareL] using hb] at HB
  have hb2 := b.toNat_lt
  generalize hs1 : str [b] = s1 at *
  have HS1 := Lib.hid hs1; clear hs1 hs hn
  go_enter Try.func39, Try.ntmps39
  go_wp2_with (first
    | (go_at_call 40; refine (must_ok _).mono ?_; rintro e w1 ⟨rfl, rfl⟩; have HA := Lib.hid (show ItA w g (b :: r) (w.alloc (.cells #[.bool false, .string ⟨#[]⟩, .slice none 0 0] 27)) from ⟨(Only.refl _ _ _).alloc (Nat.le_refl _) _, HR.out.later ((Below.refl _ _).alloc (Nat.le_refl _) _), heap_alloc_new _ _⟩))
    | (go_at_call 51; refine (HT.out _ HA.out.rd).mono ?_; rintro e w2 ⟨ho, rfl, hr⟩; have HA2 := Lib.hid (HA.out.laterO hg.out ho hr); clear HT ho hr; rw [HS1.out])
    | (go_at_call 52; refine (HB.out _).mono ?_; rintro e w3 ⟨rfl, rfl⟩)
    | (go_at_call 23; refine (text_c _ _).mono ?_; rintro e w3 ⟨rfl, hb3⟩; have HA3 := Lib.hid (HA2.out.laterB hb3); clear hb3; obtain ⟨⟨c0, c1, c2⟩, z0, z1, z2⟩ := cells3 HA3.out.row; unfold textV))
  have hE := HA3.out.set hg.out (.bool false) (.string s1) (.slice none 0 0)
  exact bodyPost_ret (results_cell_row Try.results39 _ _ _ _ _ _ _ rfl (heap_set3 HA3.out.row _ _ _) Try.underlying27 rfl (by kernel_rfl)) rfl
    ⟨hE.1, ⟨.text [b], _, rfl, rfl, by rw [← HS1.out]; rfl⟩, hE.2⟩
set_option maxRecDepth 100000 in
set_option maxHeartbeats 1000000 in
theorem item_text (d : Nat) (g : Nat) (b : UInt8) (r : List UInt8) (hb : 128 ≤ b.toNat) (hb2 : b.toNat < 192) (n : Nat) (w : World) (hn : n + (d + 1) = 65) (hs : (b :: r).length ≤ 100000) (h : Rd g (b :: r) w) :
    Calls Try.prog 39 #[.pointer (some ⟨g, 0, none⟩), .int .i64 n] w (ItR g w (textS (bodyP (b.toNat - 128) r))) := by
  have hi : (n : Int) ≤ 64 := by omega
  have hg := Lib.hid (lt_of h)
  have HR := Lib.hid h; clear h
  have HT := Lib.hid (fun W h => take_c g (b :: r) 1 (by omega) W h)
  rw [takeOne rfl] at HT
  have hx := index1 b
  have HB := Lib.hid (fun W => bare_c [b] W)
  rw [show bareL [b] = false by simp [bareL]; omega] at HB
  have hb3 := b.toNat_lt
  have HY := Lib.hid (fun W h => body_c g r (b.toNat - 128) (by omega) (by simp at hs; omega) W h)
  have hbi : (128 : Int) ≤ (b.toNat : Int) := by omega
  have hbj : (b.toNat : Int) < 192 := by omega
  have hbk : (b.toNat : Int) < 256 := by omega
  rw [show ((b.toNat - 128 : Nat) : Int) = (b.toNat : Int) - 128 by omega] at HY
  generalize hs1 : str [b] = s1 at *
  have HS1 := Lib.hid hs1; clear hs1 hn
  have HR2 := Lib.hid hb
  generalize bodyP (b.toNat - 128) r = y at *
  clear hb hb2
  generalize b.toNat = k at *
  rcases y with _ | ⟨x, r'⟩
  · go_enter Try.func39, Try.ntmps39
    go_wp2_with (first
      | (go_at_call 40; refine (must_ok _).mono ?_; rintro e w1 ⟨rfl, rfl⟩; have HA := Lib.hid (show ItA w g (b :: r) (w.alloc (.cells #[.bool false, .string ⟨#[]⟩, .slice none 0 0] 27)) from ⟨(Only.refl _ _ _).alloc (Nat.le_refl _) _, HR.out.later ((Below.refl _ _).alloc (Nat.le_refl _) _), heap_alloc_new _ _⟩))
      | (go_at_call 51; refine (HT.out _ HA.out.rd).mono ?_; rintro e w2 ⟨ho, rfl, hr⟩; have HA2 := Lib.hid (HA.out.laterO hg.out ho hr); clear HT ho hr; rw [HS1.out])
      | (go_at_call 52; refine (HB.out _).mono ?_; rintro e w3 ⟨rfl, rfl⟩; clear HB)
      | (go_at_call 53; refine (HY.out _ HA2.out.rd).mono ?_; rintro e w4 ⟨ho, rfl⟩; have HO := Lib.hid ho; clear ho))
    exact ⟨rfl, HA2.out.only.thenO HO.out, rfl⟩
  · have HBX := Lib.hid (fun W => bare_c x W)
    simp only [textS]
    cases hbx : bareL x
    · rw [hbx] at HBX
      clear hbx
      go_enter Try.func39, Try.ntmps39
      go_wp2_with (first
        | (go_at_call 40; refine (must_ok _).mono ?_; rintro e w1 ⟨rfl, rfl⟩; clear HR2; have HA := Lib.hid (show ItA w g (b :: r) (w.alloc (.cells #[.bool false, .string ⟨#[]⟩, .slice none 0 0] 27)) from ⟨(Only.refl _ _ _).alloc (Nat.le_refl _) _, HR.out.later ((Below.refl _ _).alloc (Nat.le_refl _) _), heap_alloc_new _ _⟩))
        | (go_at_call 51; refine (HT.out _ HA.out.rd).mono ?_; rintro e w2 ⟨ho, rfl, hr⟩; have HA2 := Lib.hid (HA.out.laterO hg.out ho hr); clear HT ho hr; rw [HS1.out])
        | (go_at_call 52; refine (HB.out _).mono ?_; rintro e w3 ⟨rfl, rfl⟩; clear HB)
        | (go_at_call 40; refine (must_ok _).mono ?_; rintro e w1 ⟨rfl, rfl⟩)
        | (go_at_call 53; refine (HY.out _ HA2.out.rd).mono ?_; rintro e w4 ⟨ho, rfl, hr⟩; have HA3 := Lib.hid (HA2.out.laterO hg.out ho hr); clear ho hr; clear HY)
        | (go_at_call 52; refine (HBX.out _).mono ?_; rintro e w3 ⟨rfl, rfl⟩)
        | (go_at_call 23; refine (text_c _ _).mono ?_; rintro e w5 ⟨rfl, hb5⟩; have HA5 := Lib.hid (HA3.out.laterB hb5); clear hb5; obtain ⟨⟨c0, c1, c2⟩, z0, z1, z2⟩ := cells3 HA5.out.row; unfold textV))
      have hE := HA5.out.set hg.out (.bool false) (.string (str x)) (.slice none 0 0)
      exact bodyPost_ret (results_cell_row Try.results39 _ _ _ _ _ _ _ rfl (heap_set3 HA5.out.row _ _ _) Try.underlying27 rfl (by kernel_rfl)) rfl
        ⟨hE.1, ⟨.text x, _, rfl, rfl, rfl⟩, hE.2⟩
    · rw [hbx] at HBX
      clear hbx
      go_enter Try.func39, Try.ntmps39
      go_wp2_with (first
        | (go_at_call 40; refine (must_ok _).mono ?_; rintro e w1 ⟨rfl, rfl⟩; clear HR2; have HA := Lib.hid (show ItA w g (b :: r) (w.alloc (.cells #[.bool false, .string ⟨#[]⟩, .slice none 0 0] 27)) from ⟨(Only.refl _ _ _).alloc (Nat.le_refl _) _, HR.out.later ((Below.refl _ _).alloc (Nat.le_refl _) _), heap_alloc_new _ _⟩))
        | (go_at_call 51; refine (HT.out _ HA.out.rd).mono ?_; rintro e w2 ⟨ho, rfl, hr⟩; have HA2 := Lib.hid (HA.out.laterO hg.out ho hr); clear HT ho hr; rw [HS1.out])
        | (go_at_call 52; refine (HB.out _).mono ?_; rintro e w3 ⟨rfl, rfl⟩; clear HB)
        | (go_at_call 40; refine (must_no _).mono ?_; rintro e w1 ⟨rfl, rfl⟩)
        | (go_at_call 53; refine (HY.out _ HA2.out.rd).mono ?_; rintro e w4 ⟨ho, rfl, hr⟩; have HA3 := Lib.hid (HA2.out.laterO hg.out ho hr); clear ho hr; clear HY)
        | (go_at_call 52; refine (HBX.out _).mono ?_; rintro e w3 ⟨rfl, rfl⟩))
      exact ⟨rfl, HA3.out.only, rfl⟩
theorem ItA.laterI {w : World} {g : Nat} {r : List UInt8} {W W' : World} {o : Obj} (hg : g < w.heap.size) (h : ItA w g r W) (ho : Only (fun k => k = W.heap.size) (W.alloc o).heap.size (W.alloc o) W') : ItA w g r W' := by
  have hl := h.lt
  have hk : ∀ k, k < W.heap.size → W'.heap[k]? = W.heap[k]? := fun k hk => (ho.block k (by simp; omega) (by omega)).trans (Below.heap_alloc _ _ _ hk)
  have hs := ho.size
  simp at hs
  refine ⟨(h.only.alloc h.only.size o).trans (ho.mono (by simp; omega) (fun k hk e => by omega)), (hk g (by omega)).trans h.rd, (hk _ hl).trans h.row⟩
set_option maxRecDepth 100000 in
set_option maxHeartbeats 1000000 in
theorem item_list (d : Nat) (IH : ItemsC d) (g : Nat) (b : UInt8) (r : List UInt8) (hb : 192 ≤ b.toNat) (n : Nat) (w : World) (hn : n + (d + 1) = 65) (hs : (b :: r).length ≤ 100000) (h : Rd g (b :: r) w) :
    Calls Try.prog 39 #[.pointer (some ⟨g, 0, none⟩), .int .i64 n] w (ItR g w (listS (itemP d) (bodyP (b.toNat - 192) r))) := by
  have hi : (n : Int) ≤ 64 := by omega
  have hg := Lib.hid (lt_of h)
  have HR := Lib.hid h; clear h
  have HT := Lib.hid (fun W h => take_c g (b :: r) 1 (by omega) W h)
  rw [takeOne rfl] at HT
  have hx := index1 b
  have HB := Lib.hid (fun W => bare_c [b] W)
  rw [show bareL [b] = false by simp [bareL]; omega] at HB
  have hb3 := b.toNat_lt
  have HY := Lib.hid (fun W h => body_c g r (b.toNat - 192) (by omega) (by simp at hs; omega) W h)
  have hbi : (192 : Int) ≤ (b.toNat : Int) := by omega
  have hbj : ¬ (b.toNat : Int) < 192 := by omega
  have hbk : (b.toNat : Int) < 256 := by omega
  rw [show ((b.toNat - 192 : Nat) : Int) = (b.toNat : Int) - 192 by omega] at HY
  generalize hs1 : str [b] = s1 at *
  have HS1 := Lib.hid hs1; clear hs1
  have HR2 := Lib.hid hb
  have hY2 : ∀ x r', bodyP (b.toNat - 192) r = some (x, r') → x.length ≤ 100000 := fun x r' h => by have := bodyP_le h; simp at hs; omega
  generalize bodyP (b.toNat - 192) r = y at *
  clear hb
  generalize b.toNat = k at *
  rcases y with _ | ⟨x, r'⟩
  · clear hn hY2
    go_enter Try.func39, Try.ntmps39
    go_wp2_with (first
      | (go_at_call 40; refine (must_ok _).mono ?_; rintro e w1 ⟨rfl, rfl⟩; clear HR2; have HA := Lib.hid (show ItA w g (b :: r) (w.alloc (.cells #[.bool false, .string ⟨#[]⟩, .slice none 0 0] 27)) from ⟨(Only.refl _ _ _).alloc (Nat.le_refl _) _, HR.out.later ((Below.refl _ _).alloc (Nat.le_refl _) _), heap_alloc_new _ _⟩))
      | (go_at_call 51; refine (HT.out _ HA.out.rd).mono ?_; rintro e w2 ⟨ho, rfl, hr⟩; have HA2 := Lib.hid (HA.out.laterO hg.out ho hr); clear HT ho hr; rw [HS1.out])
      | (go_at_call 52; refine (HB.out _).mono ?_; rintro e w3 ⟨rfl, rfl⟩; clear HB)
      | (go_at_call 53; refine (HY.out _ HA2.out.rd).mono ?_; rintro e w4 ⟨ho, rfl⟩; have HO := Lib.hid ho; clear ho))
    exact ⟨rfl, HA2.out.only.thenO HO.out, rfl⟩
  · have HI := Lib.hid (fun (W : World) => IH W.heap.size x (n + 1) (W.alloc (.cells #[.string (str x)] 76)) (by omega) (hY2 x r' rfl) (heap_alloc_new _ _))
    rw [show ((n + 1 : Nat) : Int) = (n : Int) + 1 by omega] at HI
    clear hn hY2
    simp only [listS]
    generalize itemsP (itemP d) x.length x = z at *
    rcases z with _ | f
    · go_enter Try.func39, Try.ntmps39
      go_wp2_with (first
        | (go_at_call 40; refine (must_ok _).mono ?_; rintro e w1 ⟨rfl, rfl⟩; clear HR2; have HA := Lib.hid (show ItA w g (b :: r) (w.alloc (.cells #[.bool false, .string ⟨#[]⟩, .slice none 0 0] 27)) from ⟨(Only.refl _ _ _).alloc (Nat.le_refl _) _, HR.out.later ((Below.refl _ _).alloc (Nat.le_refl _) _), heap_alloc_new _ _⟩))
        | (go_at_call 51; refine (HT.out _ HA.out.rd).mono ?_; rintro e w2 ⟨ho, rfl, hr⟩; have HA2 := Lib.hid (HA.out.laterO hg.out ho hr); clear HT ho hr; rw [HS1.out])
        | (go_at_call 52; refine (HB.out _).mono ?_; rintro e w3 ⟨rfl, rfl⟩; clear HB)
        | (go_at_call 53; refine (HY.out _ HA2.out.rd).mono ?_; rintro e w4 ⟨ho, rfl, hr⟩; have HA3 := Lib.hid (HA2.out.laterO hg.out ho hr); clear ho hr; clear HY)
        | (go_at_call 54; refine (HI.out _).mono ?_; rintro e w5 ⟨ho, rfl⟩; have HA4 := Lib.hid (HA3.out.laterI hg.out ho); clear ho))
      exact ⟨rfl, HA4.out.only, rfl⟩
    · go_enter Try.func39, Try.ntmps39
      go_wp2_with (first
        | (go_at_call 40; refine (must_ok _).mono ?_; rintro e w1 ⟨rfl, rfl⟩; clear HR2; have HA := Lib.hid (show ItA w g (b :: r) (w.alloc (.cells #[.bool false, .string ⟨#[]⟩, .slice none 0 0] 27)) from ⟨(Only.refl _ _ _).alloc (Nat.le_refl _) _, HR.out.later ((Below.refl _ _).alloc (Nat.le_refl _) _), heap_alloc_new _ _⟩))
        | (go_at_call 51; refine (HT.out _ HA.out.rd).mono ?_; rintro e w2 ⟨ho, rfl, hr⟩; have HA2 := Lib.hid (HA.out.laterO hg.out ho hr); clear HT ho hr; rw [HS1.out])
        | (go_at_call 52; refine (HB.out _).mono ?_; rintro e w3 ⟨rfl, rfl⟩; clear HB)
        | (go_at_call 53; refine (HY.out _ HA2.out.rd).mono ?_; rintro e w4 ⟨ho, rfl, hr⟩; have HA3 := Lib.hid (HA2.out.laterO hg.out ho hr); clear ho hr; clear HY)
        | (go_at_call 54; refine (HI.out _).mono ?_; rintro e w5 ⟨ho, v, rfl, hv⟩; obtain ⟨va, vn, vc, rfl⟩ := hv.form; have HA4 := Lib.hid (HA3.out.laterI hg.out ho); have HV := Lib.hid (And.intro hv HA3.out.lt); clear ho hv; obtain ⟨⟨c0, c1, c2⟩, z0, z1, z2⟩ := cells3 HA4.out.row))
      have hE := HA4.out.set hg.out (.bool true) (.string ⟨#[]⟩) (.slice va vn vc)
      have hV := HV.out.1
      have hl := HV.out.2
      refine bodyPost_ret (results_cell_row Try.results39 _ _ _ _ _ _ _ rfl (heap_set3 HA4.out.row _ _ _) Try.underlying27 rfl (by kernel_rfl)) rfl
        ⟨hE.1, ⟨.list f, _, rfl, rfl, _, rfl, ?_⟩, hE.2⟩
      have hb : Below (w.heap.size + 1) w5 w5 := Below.refl _ _
      refine (hV.kept (W' := ((w5.setCell ⟨w.heap.size, 0, none⟩ (.bool true)).setCell ⟨w.heap.size, 1, none⟩ (.string ⟨#[]⟩)).setCell ⟨w.heap.size, 2, none⟩ (.slice va vn vc)) (fun k hk => ?_)).mono (fun k hk => ?_)
      · have h1 := hk.1
        simp at h1
        rw [heap_setCell_other _ _ _ _ (by simp; omega), heap_setCell_other _ _ _ _ (by simp; omega), heap_setCell_other _ _ _ _ (by simp; omega)]
      · have h1 := hk.1
        have h2 := hk.2
        simp at h1
        refine ⟨by omega, ?_⟩
        simpa [World.setCell] using h2
theorem item_succ {d : Nat} (IH : ItemsC d) : ItemC (d + 1) := by
  intro g s n w hn hs h
  rcases s with _ | ⟨b, r⟩
  · have hi : (n : Int) ≤ 64 := by omega
    have HR := Lib.hid h
    have HT := Lib.hid (fun W h => take_c g [] 1 (by simp) W h)
    have HA := Lib.hid (show Only (fun k => k = g) w.heap.size w (w.alloc (.cells #[.bool false, .string ⟨#[]⟩, .slice none 0 0] 27)) from (Only.refl _ _ _).alloc (Nat.le_refl _) _)
    clear h
    go_enter Try.func39, Try.ntmps39
    go_wp2_with (first
      | (go_at_call 40; refine (must_ok _).mono ?_; rintro e w1 ⟨rfl, rfl⟩)
      | (go_at_call 51; refine (HT.out _ (HR.out.later ((Below.refl _ _).alloc (Nat.le_refl _) _))).mono ?_; rintro e w2 ⟨ho, rfl⟩; have HA2 := Lib.hid (HA.out.thenO ho); clear ho HT))
    exact ⟨rfl, HA2.out, rfl⟩
  · show Calls _ _ _ _ (ItR g w (itemS (itemP d) (b :: r)))
    have hS : itemS (itemP d) (b :: r) = if b.toNat < 128 then some (.text [b] .nil, r) else if b.toNat < 192 then textS (bodyP (b.toNat - 128) r) else listS (itemP d) (bodyP (b.toNat - 192) r) := rfl
    rw [hS]
    by_cases h1 : b.toNat < 128
    · rw [if_pos h1]
      exact item_short d g b r h1 n w hn hs h
    · rw [if_neg h1]
      by_cases h2 : b.toNat < 192
      · rw [if_pos h2]
        exact item_text d g b r (by omega) h2 n w hn hs h
      · rw [if_neg h2]
        exact item_list d IH g b r (by omega) n w hn hs h
theorem item_any : ∀ d, ItemC d
  | 0 => item_zero
  | d + 1 => item_succ (items_c (item_any d))
end Go.Proofs.Ytgaaalacoeainaa
