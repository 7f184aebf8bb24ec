/- A disk that runs: its calls, one behind the other. -/
import Derived.Test.YthadbhhabngfeaaDkm
import Derived.Test.YthadbhhabngfeaaDkl
namespace Go.Proofs.Ythadbhhabngfeaa
open Go.RowKit Go.Maps Go.WideElems Go.ChangeMaps Go.MapKept Go.WideMaps
structure Al (x : Dk) (d : Nat) (W W' : World) : Prop where
  d : x.d = d
  at_ : DiskAt x W'
  chg : Chg (fun _ => False) x.ft W W'
  fine : Fine x
  dead : x.dead = false
  after : x.after = -1
section
variable {x : Dk} {d : Nat} {W W' : World}
theorem Al.nz (h : Al x d W W') : x.after ≠ 0 := by rw [h.after]; omega
theorem Al.tick (h : Al x d W W') : x.tick = x := tick_neg (by rw [h.after]; omega)
theorem Al.new {d m room : Nat} (hr : room ≤ 1000000) (h : DiskAt (Dk.new d m room) W') (hc : Chg (fun _ => False) (Dk.new d m room).ft W W') : Al (Dk.new d m room) d W W' := ⟨rfl, h, hc, Fine.new d m (by omega), rfl, rfl⟩
theorem Al.append (h : Al x d W W') {s xs : Nm} (hf : (xs.length : Int) ≤ x.room - x.used) (hs : s.length ≤ 1000) (hb : (bytesF (x.fs s)).length + xs.length ≤ 1000000000) (hu : x.used + xs.length ≤ 1000000000) (hn : x.n + 1 < 1000000) :
    Calls Try.prog 10 #[.pointer (some ⟨d, 0, none⟩), .string (str s), .string (str xs)] W' fun e W2 => e = .returned (.int .i64 0) ∧ ∃ f, f.bs = bytesF (x.fs s) ++ xs ∧ f.syn = synF (x.fs s) ∧ Al (x.put s f xs.length) d W W2 := by
  obtain ⟨rfl, h1, h2, h3, h4, h5⟩ := id h
  refine (append_fits h1 h4 h.nz h3 hf (long_ok hs) hb).mono ?_
  rintro e W2 ⟨rfl, f, q1, q2, q3, q4⟩
  rw [h.tick] at q3 q4
  exact ⟨rfl, f, q1, q2, rfl, q3, h2.trans q4, h3.put _ _ _ hu hn, h4, h5⟩
theorem Al.full (h : Al x d W W') {s xs : Nm} (hf : ¬ (xs.length : Int) ≤ x.room - x.used) :
    Calls Try.prog 10 #[.pointer (some ⟨d, 0, none⟩), .string (str s), .string (str xs)] W' fun e W2 => e = .returned (.int .i64 5) ∧ Al x d W W2 := by
  obtain ⟨rfl, h1, h2, h3, h4, h5⟩ := id h
  refine (append_full h1 h4 h.nz h3 hf).mono ?_
  rintro e W2 ⟨rfl, q3, q4⟩
  rw [h.tick] at q3
  exact ⟨rfl, rfl, q3, h2.trans q4, h3, h4, h5⟩
theorem Al.sync (h : Al x d W W') {s : Nm} {f : Fl} (hf : x.fs s = some f) (hs : s.length ≤ 1000) :
    Calls Try.prog 11 #[.pointer (some ⟨d, 0, none⟩), .string (str s)] W' fun e W2 => e = .returned (.int .i64 0) ∧ Al (x.syn s f) d W W2 := by
  obtain ⟨rfl, h1, h2, h3, h4, h5⟩ := id h
  refine (sync_some h1 h4 h.nz h3 hf (long_ok hs)).mono ?_
  rintro e W2 ⟨rfl, q3, q4⟩
  rw [h.tick] at q3 q4
  exact ⟨rfl, rfl, q3, h2.trans q4, h3.syn _ _, h4, h5⟩
theorem Al.delete (h : Al x d W W') {s : Nm} {f : Fl} (hf : x.fs s = some f) (hs : s.length ≤ 1000) (hb : (f.bs.length : Int) ≤ x.used) :
    Calls Try.prog 17 #[.pointer (some ⟨d, 0, none⟩), .string (str s)] W' fun e W2 => e = .returned (.int .i64 0) ∧ Al (x.rem s f) d W W2 := by
  obtain ⟨rfl, h1, h2, h3, h4, h5⟩ := id h
  refine (delete_some h1 h4 h.nz h3 hf (long_ok hs) (by have := h3.used; omega)).mono ?_
  rintro e W2 ⟨rfl, q3, q4⟩
  rw [h.tick] at q3 q4
  exact ⟨rfl, rfl, q3, h2.trans q4, h3.rem _ _ hb, h4, h5⟩
theorem Al.delete_none (h : Al x d W W') {s : Nm} (hf : x.fs s = none) (hs : s.length ≤ 1000) :
    Calls Try.prog 17 #[.pointer (some ⟨d, 0, none⟩), .string (str s)] W' fun e W2 => e = .returned (.int .i64 6) ∧ Al x d W W2 := by
  obtain ⟨rfl, h1, h2, h3, h4, h5⟩ := id h
  refine (delete_none h1 h4 h.nz h3 hf (long_ok hs)).mono ?_
  rintro e W2 ⟨rfl, q3, q4⟩
  rw [h.tick] at q3
  exact ⟨rfl, rfl, q3, h2.trans q4, h3, h4, h5⟩
theorem Al.rename (h : Al x d W W') {s t : Nm} {f g : Fl} (hst : t ≠ s) (hf : x.fs s = some f) (hg : x.fs t = some g) (hs : s.length ≤ 1000) (ht : t.length ≤ 1000) (hb : (g.bs.length : Int) ≤ x.used) (hn : x.n + 1 < 1000000) :
    Calls Try.prog 19 #[.pointer (some ⟨d, 0, none⟩), .string (str s), .string (str t)] W' fun e W2 => e = .returned (.int .i64 0) ∧ Al (x.mv s t f g) d W W2 := by
  obtain ⟨rfl, h1, h2, h3, h4, h5⟩ := id h
  refine (rename_some h1 h4 h.nz h3 hst hf hg (long_ok hs) (long_ok ht) (by have := h3.used; omega)).mono ?_
  rintro e W2 ⟨rfl, q3, q4⟩
  rw [h.tick] at q3 q4
  exact ⟨rfl, rfl, q3, h2.trans q4, ⟨h3.room, ⟨by show (0 : Int) ≤ x.used - (g.bs.length : Int); omega, by have := h3.used; show x.used - (g.bs.length : Int) ≤ _; omega⟩, h3.after, hn⟩, h4, h5⟩
theorem Al.rename_none (h : Al x d W W') {s : Nm} (t : Nm) (hf : x.fs s = none) (hs : s.length ≤ 1000) :
    Calls Try.prog 19 #[.pointer (some ⟨d, 0, none⟩), .string (str s), .string (str t)] W' fun e W2 => e = .returned (.int .i64 6) ∧ Al x d W W2 := by
  obtain ⟨rfl, h1, h2, h3, h4, h5⟩ := id h
  refine (Go.Proofs.Ythadbhhabngfeaa.rename_none h1 h4 h.nz h3 t hf (long_ok hs)).mono ?_
  rintro e W2 ⟨rfl, q3, q4⟩
  rw [h.tick] at q3
  exact ⟨rfl, rfl, q3, h2.trans q4, h3, h4, h5⟩
theorem Al.read (h : Al x d W W') {s : Nm} (hs : s.length ≤ 1000) :
    Calls Try.prog 15 #[.pointer (some ⟨d, 0, none⟩), .string (str s)] W' fun e W2 => e = .returned (told (x.fs s)) ∧ W2 = W' := by
  obtain ⟨rfl, h1, h2, h3, h4, h5⟩ := id h
  exact read_c h1 (long_ok hs)
theorem Al.used_c (h : Al x d W W') : Calls Try.prog 16 #[.pointer (some ⟨d, 0, none⟩)] W' fun e W2 => e = .returned (.int .i64 x.used) ∧ W2 = W' := by
  obtain ⟨rfl, h1, h2, h3, h4, h5⟩ := id h
  exact Go.Proofs.Ythadbhhabngfeaa.used_c h1
/-- Nothing kept of what is not synced. -/
theorem Al.lost0 (h : Al x d W W') (B : Nat) (hfile : ∀ s f, x.fs s = some f → f.bs.length ≤ B ∧ f.syn ≤ f.bs.length) (hsm : B * x.n ≤ 100000000) :
    Calls Try.prog 13 #[.pointer (some ⟨d, 0, none⟩), .int .i64 0] W' fun e W2 => ∃ zd z, e = .returned (.pointer (some ⟨zd, 0, none⟩)) ∧ Al z zd W W2 ∧ Al x d W W2 ∧ ∀ s, (x.fs s = none → z.fs s = none) ∧ ∀ f, x.fs s = some f → ∃ g, z.fs s = some g ∧ g.bs = f.bs.take f.syn := by
  obtain ⟨rfl, h1, h2, h3, h4, h5⟩ := id h
  obtain ⟨D, ho, hat, hhas⟩ := h1.own
  refine (lost_c (B := B) ⟨h1, h3, ho, hat, hhas, hfile, hsm⟩ 0).mono ?_
  rintro e W2 ⟨zd, rfl, z, q1, q2, q3, q4, q5, q6, q7, q8, q9, q10⟩
  refine ⟨zd, z, rfl, ⟨q1, q2, (Chg.of_below h2.below).trans q3, q4, q6, q7⟩, ⟨rfl, h1.below q3.below, h2.trans (Chg.of_below q3.below), h3, h4, h5⟩, fun s => ⟨fun hn => (q8 s).1 (Or.inl hn), fun f hf => ?_⟩⟩
  obtain ⟨g, r1, r2, r3⟩ := (q8 s).2 f hf rfl
  refine ⟨g, r1, ?_⟩
  have hk : keptN 0 f = f.syn := by unfold keptN tornN; simp
  rw [r2, hk]
end
end Go.Proofs.Ythadbhhabngfeaa
