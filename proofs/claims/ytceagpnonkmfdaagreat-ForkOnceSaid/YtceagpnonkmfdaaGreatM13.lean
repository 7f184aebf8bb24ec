/- Merged: Ld, Le, Lf, Lg. -/
import Derived.Test.YtceagpnonkmfdaaGreatM12
import Derived.Maps.AppendAt
import Derived.Recover
section
namespace Go.Proofs.YtceagpnonkmfdaaGreat
open Go.RowKit

/-- What must panics with. -/
def boom : List PanicEntry := [{ v := .iface 27 (.int .i64 2), recovered := false }]
theorem must_ok (w : World) : Calls Tryz.prog 79 #[.bool true] w fun e w' => e = .returned (.tuple #[]) ∧ w' = w := by
  go_enter Tryz.func79, Tryz.ntmps79
  go_wp2_with fail
  go_end0
  exact ⟨rfl, rfl⟩
theorem must_no (w : World) : Calls Tryz.prog 79 #[.bool false] w fun e w' => e = .panicked boom ∧ w' = w := by
  go_enter Tryz.func79, Tryz.ntmps79
  go_wp2_with fail
  exact ⟨rfl, rfl, rfl⟩
/-- The reader in block g has the bytes s left. -/
def Rd (g : Nat) (s : List UInt8) (W : World) : Prop := W.heap[g]? = some (.cells #[.string (str s)] 161 (0, 0))
theorem Rd.set {g : Nat} {s t : List UInt8} {W : World} (h : Rd g s W) : Rd g t (W.setCell ⟨g, 0, none⟩ (.string (str t))) := by
  have e := heap_setCell_same _ _ 0 _ _ (.string (str t)) h
  unfold Rd
  simpa using e
theorem Rd.only {g B : Nat} {u : Value} (W : World) : Only (fun k => k = g) B W (W.setCell ⟨g, 0, none⟩ u) := (Only.refl (fun k => k = g) _ _).setCell (p := ⟨g, 0, none⟩) (Or.inr rfl) _
theorem str_take (s : List UInt8) (n : Nat) : (str s).extract 0 n = str (s.take n) := by
  apply ByteArray.ext
  simp [str, ByteArray.data_extract]
theorem str_drop (s : List UInt8) (n : Nat) : (str s).extract n (str s).size = str (s.drop n) := by
  apply ByteArray.ext
  simp [str, ByteArray.data_extract, ByteArray.size]
  rw [List.take_of_length_le (by simp)]
theorem take_ok (g : Nat) (s : List UInt8) (n : Nat) (hn : n ≤ s.length) (hs : s.length < 9223372036854775808) (w : World) (h : Rd g s w) :
    Calls Tryz.prog 116 #[.pointer (some ⟨g, 0, none⟩), .int .u64 n] w fun e w' => e = .returned (.string (str (s.take n))) ∧ w' = w.setCell ⟨g, 0, none⟩ (.string (str (s.drop n))) := by
  have c0 := cell_of h 0
  have z0 := free_of h 0
  have h1 := str_take s n
  have h2 := str_drop s n
  have hsz := str_size s
  rw [← hsz] at hs hn
  generalize str s = x at *
  generalize str (s.take n) = y at *
  generalize str (s.drop n) = z at *
  have hi : (n : Int) ≤ (x.size : Int) := by omega
  clear hsz h
  go_enter Tryz.func116, Tryz.ntmps116
  go_wp2_with (go_at_call 79; refine (must_ok _).mono ?_; rintro e w1 ⟨rfl, rfl⟩)
  go_ret
  exact ⟨rfl, rfl⟩
theorem take_no (g : Nat) (s : List UInt8) (n : Nat) (hn : ¬ n ≤ s.length) (hs : s.length < 9223372036854775808) (w : World) (h : Rd g s w) :
    Calls Tryz.prog 116 #[.pointer (some ⟨g, 0, none⟩), .int .u64 n] w fun e w' => e = .panicked boom ∧ w' = w := by
  have c0 := cell_of h 0
  have hsz := str_size s
  rw [← hsz] at hs hn
  generalize str s = x at *
  have hi : ¬ (n : Int) ≤ (x.size : Int) := by omega
  clear hsz h
  go_enter Tryz.func116, Tryz.ntmps116
  go_wp2_with (go_at_call 79; refine (must_no _).mono ?_; rintro e w1 ⟨rfl, rfl⟩)
  exact ⟨rfl, rfl, rfl⟩
/-- What a reader's function hands back: the bytes, and what is left; or it panics. -/
def RdR (g : Nat) (w : World) (r : Option (List UInt8 × List UInt8)) (e : Ending) (w' : World) : Prop :=
  Only (fun k => k = g) w.heap.size w w' ∧ match r with
    | some (a, b) => e = .returned (.string (str a)) ∧ Rd g b w'
    | none => e = .panicked boom
theorem take_c (g : Nat) (s : List UInt8) (n : Nat) (hs : s.length < 9223372036854775808) (w : World) (h : Rd g s w) :
    Calls Tryz.prog 116 #[.pointer (some ⟨g, 0, none⟩), .int .u64 n] w (RdR g w (tk n s)) := by
  by_cases hn : n ≤ s.length
  · refine (take_ok g s n hn hs w h).mono ?_
    rintro e w' ⟨rfl, rfl⟩
    unfold tk
    rw [if_pos hn]
    exact ⟨Rd.only w, rfl, h.set⟩
  · refine (take_no g s n hn hs w h).mono ?_
    rintro e w' ⟨rfl, rfl⟩
    unfold tk
    rw [if_neg hn]
    exact ⟨Only.refl _ _ _, rfl⟩
theorem Rd.later {g : Nat} {s : List UInt8} {W W' : World} (h : Rd g s W) (hb : Below W.heap.size W W') : Rd g s W' := (hb.block _ (lt_of h)).trans h
theorem tk_length {n : Nat} {s a b : List UInt8} (h : tk n s = some (a, b)) : a.length = n ∧ b.length = s.length - n ∧ s = a ++ b ∧ n ≤ s.length := by
  unfold tk at h
  split at h
  · rename_i hn
    cases h
    exact ⟨by simp; omega, by simp, (List.take_append_drop _ _).symm, hn⟩
  · cases h
theorem Only.thenB {may : Nat → Prop} {w w1 w2 : World} (h : Only may w.heap.size w w1) (hb : Below w1.heap.size w1 w2) : Only may w.heap.size w w2 := h.trans ((Only.of_below hb).mono h.size (fun _ _ h => h))
theorem Only.thenO {may : Nat → Prop} {w w1 w2 : World} (h : Only may w.heap.size w w1) (hb : Only may w1.heap.size w1 w2) : Only may w.heap.size w w2 := h.trans (hb.mono h.size (fun _ _ h => h))
theorem body_short (g : Nat) (s : List UInt8) (a : Nat) (ha : a ≤ 55) (hs : s.length < 9223372036854775808) (w : World) (h : Rd g s w) :
    Calls Tryz.prog 118 #[.pointer (some ⟨g, 0, none⟩), .int .u8 a] w (RdR g w (tk a s)) := by
  have hi : (a : Int) ≤ 55 := by omega
  have HT := Lib.hid (fun W h => take_c g s a hs W h)
  have H := Lib.hid h
  clear h
  cases hk : tk a s with
  | none =>
    rw [hk] at HT
    clear hk
    go_enter Tryz.func118, Tryz.ntmps118
    go_wp2_with (go_at_call 116; refine (HT.out _ H.out).mono ?_; rintro e w1 ⟨ho, rfl⟩; have HO := Lib.hid ho; clear ho)
    exact ⟨rfl, HO.out, rfl⟩
  | some x =>
    obtain ⟨y, z⟩ := x
    rw [hk] at HT
    clear hk
    go_enter Tryz.func118, Tryz.ntmps118
    go_wp2_with (go_at_call 116; refine (HT.out _ H.out).mono ?_; rintro e w1 ⟨ho, rfl, hr⟩; have HO := Lib.hid (And.intro ho hr); clear ho hr)
    go_ret
    exact ⟨HO.out.1, rfl, HO.out.2⟩
set_option maxRecDepth 100000 in
set_option maxHeartbeats 1000000 in
theorem body_long (g : Nat) (s : List UInt8) (a : Nat) (ha : 55 < a) (ha2 : a < 64) (hs : s.length < 9223372036854775808) (w : World) (h : Rd g s w) :
    Calls Tryz.prog 118 #[.pointer (some ⟨g, 0, none⟩), .int .u8 a] w (RdR g w (bodyP a s)) := by
  have hi : ¬ (a : Int) ≤ 55 := by omega
  have hi2 : ((a - 55 : Nat) : Int) = (a : Int) - 55 := by omega
  have HT := Lib.hid (fun W h => take_c g s (a - 55) hs W h)
  have H := Lib.hid h
  clear h
  rw [hi2] at HT
  have hB : bodyP a s = match tk (a - 55) s with
    | none => none
    | some (n, r) => if smallL n = true ∧ 55 < val n then tk (val n) r else none := by unfold bodyP; rw [if_neg (by omega)]; rfl
  have HK := Lib.hid (fun x y h => tk_length (n := a - 55) (s := s) (a := x) (b := y) h)
  rw [hB]
  clear hB
  cases hk : tk (a - 55) s with
  | none =>
    rw [hk] at HT
    clear hk hi2
    go_enter Tryz.func118, Tryz.ntmps118
    go_wp2_with (go_at_call 116; refine (HT.out _ H.out).mono ?_; rintro e w1 ⟨ho, rfl⟩; have HO := Lib.hid ho; clear ho)
    exact ⟨rfl, HO.out, rfl⟩
  | some x =>
    obtain ⟨y, z⟩ := x
    have hl := HK.out _ _ hk
    rw [hk] at HT
    clear hk hi2
    have hzl := Lib.hid (show z.length < 9223372036854775808 by omega)
    have hy8 := Lib.hid (show y.length ≤ 8 by omega)
    clear hl
    show Calls _ _ _ _ (RdR g w (if smallL y = true ∧ 55 < val y then tk (val y) z else none))
    by_cases hsm : smallL y = true
    · have hh : y.head? ≠ some 0 := by
        unfold smallL at hsm
        simpa [hy8.out] using hsm
      have hv : val y < 18446744073709551616 := Nat.lt_of_lt_of_le (val_lt y) (Nat.le_trans (Nat.pow_le_pow_right (by decide) hy8.out) (by decide))
      have HS := Lib.hid (fun W => small_ok_c y (.slice none 0 0) hy8.out hh W)
      have HT2 := Lib.hid (fun W h => take_c g z (val y) hzl.out W h)
      clear hh
      generalize val y = v at *
      by_cases h55 : 55 < v
      · have hvi : (55 : Int) < (v : Int) := by omega
        rw [if_pos ⟨hsm, h55⟩]
        clear hsm
        cases hk2 : tk v z with
        | none =>
          rw [hk2] at HT2
          clear hk2
          go_enter Tryz.func118, Tryz.ntmps118
          go_wp2_with (first
            | (go_at_call 116; refine (HT.out _ H.out).mono ?_; rintro e w1 ⟨ho, rfl, hr⟩; have HO := Lib.hid (And.intro ho hr); clear ho hr HT; generalize str y = x at *)
            | (go_at_call 42; refine (text_c _ _).mono ?_; rintro e w2 ⟨rfl, hb⟩; have HO2 := Lib.hid hb; clear hb; unfold textV)
            | (go_at_call 110; refine (HS.out _).mono ?_; rintro e w3 ⟨rfl, hb⟩; have HO3 := Lib.hid hb; clear hb)
            | (go_at_call 79; refine (must_ok _).mono ?_; rintro e w4 ⟨rfl, rfl⟩))
          refine (HT2.out _ ((HO.out.2.later HO2.out).later HO3.out)).mono ?_
          rintro e w5 ⟨ho5, rfl⟩
          exact ⟨rfl, ((HO.out.1.thenB HO2.out).thenB HO3.out).thenO ho5, rfl⟩
        | some q =>
          obtain ⟨p, q⟩ := q
          rw [hk2] at HT2
          clear hk2
          go_enter Tryz.func118, Tryz.ntmps118
          go_wp2_with (first
            | (go_at_call 116; refine (HT.out _ H.out).mono ?_; rintro e w1 ⟨ho, rfl, hr⟩; have HO := Lib.hid (And.intro ho hr); clear ho hr HT; generalize str y = x at *)
            | (go_at_call 42; refine (text_c _ _).mono ?_; rintro e w2 ⟨rfl, hb⟩; have HO2 := Lib.hid hb; clear hb; unfold textV)
            | (go_at_call 110; refine (HS.out _).mono ?_; rintro e w3 ⟨rfl, hb⟩; have HO3 := Lib.hid hb; clear hb)
            | (go_at_call 79; refine (must_ok _).mono ?_; rintro e w4 ⟨rfl, rfl⟩))
          refine (HT2.out _ ((HO.out.2.later HO2.out).later HO3.out)).mono ?_
          rintro e w5 ⟨ho5, rfl, hr5⟩
          have HO5 := Lib.hid (And.intro ho5 hr5)
          clear ho5 hr5
          go_wp2_with fail
          go_ret
          exact ⟨((HO.out.1.thenB HO2.out).thenB HO3.out).thenO HO5.out.1, rfl, HO5.out.2⟩
      · have hvi : decide ((55 : Int) < (v : Int)) = false := decide_eq_false (by omega)
        rw [if_neg fun h => h55 h.2]
        clear hsm HT2
        go_enter Tryz.func118, Tryz.ntmps118
        go_wp2_with (first
          | (go_at_call 116; refine (HT.out _ H.out).mono ?_; rintro e w1 ⟨ho, rfl, hr⟩; have HO := Lib.hid (And.intro ho hr); clear ho hr HT; generalize str y = x at *)
          | (go_at_call 42; refine (text_c _ _).mono ?_; rintro e w2 ⟨rfl, hb⟩; have HO2 := Lib.hid hb; clear hb; unfold textV)
          | (go_at_call 110; refine (HS.out _).mono ?_; rintro e w3 ⟨rfl, hb⟩; have HO3 := Lib.hid hb; clear hb)
          | (go_at_call 79; refine (must_no _).mono ?_; rintro e w4 ⟨rfl, rfl⟩))
        exact ⟨rfl, (HO.out.1.thenB HO2.out).thenB HO3.out, rfl⟩
    · have h0 : ∃ r, y = 0 :: r := by
        rcases y with _ | ⟨b, r⟩
        · simp [smallL] at hsm
        · refine ⟨r, ?_⟩
          have h1 : ¬ (smallL (b :: r) = true) := hsm
          have h8 := hy8.out
          simp only [List.length_cons] at h8
          simp [smallL, h8] at h1
          exact h1 ▸ rfl
      rw [if_neg fun h => hsm h.1]
      have HS : Hid (∀ W, Calls Tryz.prog 110 #[.agg #[.bool false, .string (str y), .slice none 0 0]] W fun e w' => e = .returned (.tuple #[.int .u64 0, .bool false]) ∧ Below W.heap.size W w') := by
        obtain ⟨r, rfl⟩ := h0
        exact Lib.hid fun W => small_zero_c (str (0 :: r)) _ (by rw [str_size]; exact hy8.out) (by simp [str_size]) (by rw [str_get]; rfl) W
      clear hsm h0
      go_enter Tryz.func118, Tryz.ntmps118
      go_wp2_with (first
        | (go_at_call 116; refine (HT.out _ H.out).mono ?_; rintro e w1 ⟨ho, rfl, hr⟩; have HO := Lib.hid (And.intro ho hr); clear ho hr HT; generalize str y = x at *)
        | (go_at_call 42; refine (text_c _ _).mono ?_; rintro e w2 ⟨rfl, hb⟩; have HO2 := Lib.hid hb; clear hb; unfold textV)
        | (go_at_call 110; refine (HS.out _).mono ?_; rintro e w3 ⟨rfl, hb⟩; have HO3 := Lib.hid hb; clear hb)
        | (go_at_call 79; refine (must_no _).mono ?_; rintro e w4 ⟨rfl, rfl⟩))
      exact ⟨rfl, (HO.out.1.thenB HO2.out).thenB HO3.out, rfl⟩
theorem body_c (g : Nat) (s : List UInt8) (a : Nat) (ha : a < 64) (hs : s.length < 9223372036854775808) (w : World) (h : Rd g s w) :
    Calls Tryz.prog 118 #[.pointer (some ⟨g, 0, none⟩), .int .u8 a] w (RdR g w (bodyP a s)) := by
  by_cases h55 : a ≤ 55
  · have := body_short g s a h55 hs w h
    rwa [show bodyP a s = tk a s from if_pos h55]
  · exact body_long g s a (by omega) ha hs w h
end Go.Proofs.YtceagpnonkmfdaaGreat
end
section
namespace Go.Proofs.YtceagpnonkmfdaaGreat
open Go.RowKit

theorem infoItem : (Tryz.prog.info? 108).map (fun i => (i.zero, i.size, i.bytes)) = some (some (.agg #[.bool false, .string ⟨#[]⟩, .slice none 0 0]), 3, 48) := by kernel_rfl
/-- A slice of items that the call has made, from block B on, and that may grow. -/
def Own (B : Nat) (f : Fo) (v : Value) (W : World) : Prop :=
  ∃ (S : Nat → Prop) (xs : List Value), W.ownsRow B 108 3 v f.len xs ∧ Cel S f xs W ∧ ∀ k, S k → B ≤ k ∧ k < W.heap.size ∧ v.ownBlock ≠ some k
theorem Own.sl {B : Nat} {f : Fo} {v : Value} {W : World} (h : Own B f v W) : SlF (fun k => B ≤ k ∧ k < W.heap.size) f v W := by
  obtain ⟨S, xs, ho, hc, hS⟩ := h
  have hc' := hc.mono (T := fun k => B ≤ k ∧ k < W.heap.size) (fun k hk => ⟨(hS k hk).1, (hS k hk).2.1⟩) f xs
  rcases ho.2 with ⟨rfl, h0⟩ | ⟨g, cap, cur, rfl, hb, hg, hn, _, _, _⟩
  · left
    refine ⟨rfl, ?_⟩
    cases f with
    | nil => rfl
    | text s r => simp [Fo.len] at h0
    | list i r => simp [Fo.len] at h0
  · right
    refine ⟨g, 0, cap, rfl, ⟨hb, lt_of hg⟩, hn, ?_⟩
    refine Cel.at f xs 0 (fun j u hj => ?_) hc'
    have h := ho.cells (g := g) rfl j u hj
    have e : (⟨g, 0, none⟩ : Addr).add j = ⟨g, j, none⟩ := by unfold Addr.add; split <;> simp_all
    rw [e] at h
    rw [Nat.zero_add]; exact h
theorem Own.nil (B : Nat) (W : World) : Own B .nil (.slice none 0 0) W := ⟨fun _ => False, [], World.ownsRow_nil _ _ _ _, rfl, fun _ h => h.elim⟩
/-- It stays while its blocks stay. -/
theorem Own.kept {B : Nat} {f : Fo} {v : Value} {W W' : World} (h : Own B f v W) (hb : ∀ k, B ≤ k → k < W.heap.size → W'.heap[k]? = W.heap[k]?) (hs : W.heap.size ≤ W'.heap.size) : Own B f v W' := by
  obtain ⟨S, xs, ho, hc, hS⟩ := h
  refine ⟨S, xs, ?_, hc.kept (fun k hk => hb k (hS k hk).1 (hS k hk).2.1) f xs, fun k hk => ⟨(hS k hk).1, Nat.lt_of_lt_of_le (hS k hk).2.1 hs, (hS k hk).2.2⟩⟩
  refine ⟨ho.1, ?_⟩
  rcases ho.2 with h0 | ⟨g, cap, cur, rfl, hbg, hg, rest⟩
  · exact Or.inl h0
  · exact Or.inr ⟨g, cap, cur, rfl, hbg, (hb g hbg (lt_of hg)).trans hg, rest⟩
theorem Own.blk {B : Nat} {f : Fo} {v : Value} {W : World} (h : Own B f v W) : ∀ k, v.ownBlock = some k → B ≤ k ∧ k < W.heap.size := by
  obtain ⟨S, xs, ho, _⟩ := h
  exact ho.lt
theorem Own.later2 {B g : Nat} {f : Fo} {v : Value} {W W1 : World} (o : Obj) (h : Own B f v W) (hg : g < B) (ho : Only (fun k => k = g) W.heap.size W W1) : Own B f v (W1.alloc o) := by
  refine (h.kept (fun k hk hk2 => ho.block k hk2 (by omega)) ho.size).kept (fun k _ hk2 => Below.heap_alloc _ _ _ hk2) (by simp)
/-- One item more. -/
theorem wpList_append_item {ops : Array Oper} {rest : List Oper} {o : Oper} {a : Act} {Q : Exit → Act → World → Prop} {W : World} (hgd : o.guard = none) (s x : Operand)
    (ho : o.op = .call { callee := .builtin .append, args := #[s, x], argTypes := #[106, 106] })
    (B : Nat) (v : Value) (f : Fo) (it : It) (b : Bool) (t : ByteArray) (l : Value) (S : Nat → Prop) (hs : a.eval s = v) (h : Own B f v W) (hS : ∀ k, S k → B ≤ k ∧ k < W.heap.size ∧ v.ownBlock ≠ some k)
    (hone : l.oneCell' = true) (hcel : Cel S (it.fo .nil) [.bool b, .string t, l] W)
    (q : Nat) (hx : a.eval x = .slice (some ⟨q, 0, none⟩) 1 1) (hz : W.heap[q]? = some (.cells #[.bool b, .string t, l] 108 (0, 0))) (hB : B ≤ W.heap.size) (hn : f.len < 1000000)
    (hK : ∀ v' W', Own B (f.app (it.fo .nil)) v' W' → W.grownBy W' v.ownBlock → (v'.ownBlock = v.ownBlock ∨ v'.ownBlock = some W.heap.size) → wpList Tryz.prog ops Q rest (a.put o.dst v') W') : wpList Tryz.prog ops Q (o :: rest) a W := by
  obtain ⟨i0, hi, hz0, hz1, hz2⟩ := info_parts infoItem
  obtain ⟨S0, xs, hown, hc, hS0⟩ := h
  have hlen : (it.fo .nil).len = 1 := by cases it <;> rfl
  refine wpList_append_own_at W hgd s x 106 ho B 108 i0 _ 3 48 Tryz.underlying106 hi hz0 hz1 hz2 rfl (by omega) v f.len xs hs hown ⟨q, 0, none⟩ 1 1 [.bool b, .string t, l] hx rfl ?_ ?_ (by unfold maxLen; omega) (by omega) hB ?_
  · intro j u hj
    have e : (⟨q, 0, none⟩ : Addr).add j = ⟨q, j, none⟩ := by unfold Addr.add; split <;> simp_all
    rw [e, cell_of hz]
    simpa using hj
  · intro u hu
    simp only [List.mem_cons, List.not_mem_nil, or_false] at hu
    rcases hu with rfl | rfl | rfl
    · rfl
    · rfl
    · exact hone
  · intro v' W' h1 h2 h3 h4
    refine hK v' W' ?_ h2 h4
    have hk0 : ∀ k, S0 k → W'.heap[k]? = W.heap[k]? := fun k hk => h2.block k (hS0 k hk).2.1 (fun e => (hS0 k hk).2.2 e.symm)
    have hk1 : ∀ k, S k → W'.heap[k]? = W.heap[k]? := fun k hk => h2.block k (hS k hk).2.1 (fun e => (hS k hk).2.2 e.symm)
    refine ⟨fun k => S0 k ∨ S k, xs ++ [.bool b, .string t, l], ?_, ?_, ?_⟩
    · rw [Fo.len_app, hlen]; exact h1
    · exact Cel.app ((hcel.kept hk1 _ _).mono (fun _ h => Or.inr h) _ _) _ _ ((hc.kept hk0 _ _).mono (fun _ h => Or.inl h) _ _)
    · intro k hk
      have hkk : B ≤ k ∧ k < W.heap.size ∧ v.ownBlock ≠ some k := hk.elim (hS0 k) (hS k)
      refine ⟨hkk.1, Nat.lt_of_lt_of_le hkk.2.1 h2.size, ?_⟩
      rcases h4 with h4 | h4
      · rw [h4]; exact hkk.2.2
      · rw [h4]; intro e; injection e with e; omega

theorem tk_le {n : Nat} {s a b : List UInt8} (h : tk n s = some (a, b)) : b.length ≤ s.length ∧ a.length ≤ s.length := by
  have := tk_length h; omega
theorem bodyP_le {a : Nat} {s x r : List UInt8} (h : bodyP a s = some (x, r)) : r.length ≤ s.length ∧ x.length ≤ s.length := by
  unfold bodyP at h
  split at h
  · exact tk_le h
  · cases hk : tk (a - 55) s with
    | none => rw [hk] at h; cases h
    | some q =>
      obtain ⟨n, q⟩ := q
      rw [hk] at h
      simp only at h
      split at h
      · have h1 := tk_le hk
        have h2 := tk_le h
        omega
      · cases h
theorem itemP_lt {d : Nat} {s r : List UInt8} {f : Fo} (h : itemP d s = some (f, r)) : r.length < s.length := by
  rcases d with _ | d
  · exact absurd (show none = some (f, r) from h) (by simp)
  · rcases s with _ | ⟨b, s⟩
    · exact absurd (show none = some (f, r) from h) (by simp)
    · change itemS (itemP d) (b :: s) = some (f, r) at h
      generalize itemP d = p at h
      unfold itemS at h
      simp only at h
      split at h
      · simp at h; rw [← h.2]; simp
      · split at h
        · generalize hk : bodyP (b.toNat - 128) s = q at h
          rcases q with _ | ⟨x, q⟩
          · simp [textS] at h
          · have := bodyP_le hk
            simp only [textS] at h
            split at h
            · simp at h
            · simp at h; rw [← h.2]; simp; omega
        · generalize hk : bodyP (b.toNat - 192) s = q at h
          rcases q with _ | ⟨x, q⟩
          · simp [listS] at h
          · have := bodyP_le hk
            simp only [listS] at h
            generalize itemsP p x.length x = g at h
            rcases g with _ | g
            · simp at h
            · simp at h; rw [← h.2]; simp; omega
theorem Only.grown {may : Nat → Prop} {B : Nat} {W W' : World} {row : Option Nat} (hg : W.grownBy W' row) (hrow : ∀ k, row = some k → B ≤ k) (hs : B ≤ W.heap.size) : Only may B W W' :=
  ⟨hg.os, hg.tape, hg.output, hg.size, fun k hk _ => hg.block k (by omega) (fun e => by have := hrow k e.symm; omega)⟩
/-- What item hands back. -/
def ItR (g : Nat) (w : World) (r : Option (Fo × List UInt8)) (e : Ending) (w' : World) : Prop :=
  Only (fun k => k = g) w.heap.size w w' ∧ match r with
    | some (f, s) => (∃ (x : It) (v : Value), f = x.fo .nil ∧ e = .returned v ∧ ItV (fun k => w.heap.size ≤ k ∧ k < w'.heap.size) x v w') ∧ Rd g s w'
    | none => e = .panicked boom
/-- What items hands back. -/
def ItsR (g : Nat) (w : World) (r : Option Fo) (e : Ending) (w' : World) : Prop :=
  Only (fun k => k = g) w.heap.size w w' ∧ match r with
    | some f => ∃ v : Value, e = .returned v ∧ SlF (fun k => w.heap.size ≤ k ∧ k < w'.heap.size) f v w'
    | none => e = .panicked boom
def ItemC (d : Nat) : Prop := ∀ (g : Nat) (s : List UInt8) (n : Nat) (w : World), n + d = 65 → s.length ≤ 100000 → Rd g s w →
  Calls Tryz.prog 78 #[.pointer (some ⟨g, 0, none⟩), .int .i64 n] w (ItR g w (itemP d s))
def ItemsC (d : Nat) : Prop := ∀ (g : Nat) (s : List UInt8) (n : Nat) (w : World), n + d = 65 → s.length ≤ 100000 → Rd g s w →
  Calls Tryz.prog 119 #[.pointer (some ⟨g, 0, none⟩), .int .i64 n] w (ItsR g w (itemsP (itemP d) s.length s))

/-- What items knows at the head of a round. -/
def ItsI (p : List UInt8 → Option (Fo × List UInt8)) (g : Nat) (w : World) (s : List UInt8) (v : Value) (W : World) : Prop :=
  ∃ (f : Fo) (s' : List UInt8) (n : Nat), Rd g s' W ∧ s'.length ≤ n ∧ f.len + s'.length ≤ s.length ∧ Only (fun k => k = g) w.heap.size w W ∧
    itemsP p s.length s = (itemsP p n s').map (f.app ·) ∧ Own w.heap.size f v W
def leftOf (g : Nat) (W : World) : Nat := match W.cell? ⟨g, 0, none⟩ with
  | some (.string x) => x.size
  | _ => 0
theorem leftOf_rd {g : Nat} {s : List UInt8} {W : World} (h : Rd g s W) : leftOf g W = s.length := by
  unfold leftOf
  rw [cell_of h 0]
  exact str_size s
set_option maxRecDepth 100000 in
set_option maxHeartbeats 1000000 in
theorem items_c {d : Nat} (IH : ItemC d) : ItemsC d := by
  intro g s n w hn hs h
  have hg : g < w.heap.size := lt_of h
  have HI := Lib.hid (show ItsI (itemP d) g w s (.slice none 0 0) w from ⟨.nil, s, s.length, h, Nat.le_refl _, by simp [Fo.len], Only.refl _ _ _, by simp [Fo.app], Own.nil _ _⟩)
  have HC := Lib.hid (fun t W ht hr => IH g t n W hn ht hr)
  clear h IH
  go_enter Tryz.func119, Tryz.ntmps119
  go_wp2_with fail
  go_loopw [5] (fun v wr => ItsI (itemP d) g w s v wr) (fun _ wr => leftOf g wr)
  case atStart => exact HI.out
  case round =>
    clear HI
    obtain ⟨f, s', m, hr, hm, hl, ho, he, hown⟩ := hrel
    rcases s' with _ | ⟨b, s'⟩
    · have c0 : wr.cell? ⟨g, 0, none⟩ = some (.string ⟨#[]⟩) := cell_of hr 0
      have he2 : itemsP (itemP d) s.length s = some f := by
        rw [he]
        rcases m with _ | m <;> simp [itemsP, Fo.app_nil]
      have HE := Lib.hid (show ItsR g w (itemsP (itemP d) s.length s) (.returned u5) wr from by
        rw [he2]
        exact ⟨ho, u5, rfl, hown.sl⟩)
      clear hr hm hl ho he hown he2
      go_wp2_with fail
      go_ret
      exact HE.out
    · have c0 : wr.cell? ⟨g, 0, none⟩ = some (.string (str (b :: s'))) := cell_of hr 0
      have hne : (str (b :: s')).toList.isEmpty = false := by rw [ByteArray.toList_eq]; rfl
      obtain ⟨m, rfl⟩ : ∃ k, m = k + 1 := ⟨m - 1, by simp at hm; omega⟩
      have HL := Lib.hid (And.intro (leftOf_rd hr) (And.intro hm hl))
      have HQ := Lib.hid (HC.out (b :: s') wr (by simp at hl ⊢; omega) hr)
      have HI := Lib.hid (And.intro ho hown)
      clear hr hm hl ho hown
      cases hp : itemP d (b :: s') with
      | none =>
        rw [hp] at HQ
        have HE := Lib.hid (show itemsP (itemP d) s.length s = none by rw [he]; simp [itemsP, hp])
        clear he hp HL
        generalize str (b :: s') = x at *
        go_wp2_with (go_at_call 78; refine HQ.out.mono ?_; rintro e w1 ⟨ho, rfl⟩; have HO := Lib.hid ho; clear ho)
        refine ⟨rfl, ?_⟩
        rw [HE.out]
        exact ⟨HI.out.1.thenO HO.out, rfl⟩
      | some q =>
        obtain ⟨f1, r⟩ := q
        rw [hp] at HQ
        have hrl := itemP_lt hp
        have HE := Lib.hid (show itemsP (itemP d) s.length s = (itemsP (itemP d) m r).map ((f.app f1).app ·) by
          rw [he]
          simp only [itemsP, hp]
          cases itemsP (itemP d) m r <;> simp [Fo.app_assoc])
        have HR := Lib.hid hrl
        clear he hp hrl
        generalize hx : str (b :: s') = x at *
        clear hx
        go_wp2_with (first
          | (go_at_call 78; refine HQ.out.mono ?_; rintro e w1 ⟨ho, ⟨it, v, rfl, rfl, hv⟩, hr⟩; obtain ⟨b2, t2, l2, rfl, hone, hcel⟩ := hv.cel; have HO := Lib.hid ho; have HV := Lib.hid (And.intro hone hcel); have HR1 := Lib.hid hr; clear ho hr hv hone hcel; clear HQ)
          | (at_builtin; refine wpList_append_item (by rfl) _ _ (by rfl) w.heap.size _ f it b2 t2 l2 (fun k => wr.heap.size ≤ k ∧ k < w1.heap.size) (by rfl) (HI.out.2.later2 _ hg HO.out)
              (fun k hk => ⟨Nat.le_trans HI.out.1.size hk.1, Nat.lt_trans (show k < w1.heap.size from hk.2) (by simp), fun e => absurd (HI.out.2.blk k e).2 (Nat.not_lt.2 hk.1)⟩) HV.out.1
              (HV.out.2.kept (fun k hk => Below.heap_alloc _ _ _ hk.2) _ _) w1.heap.size (by rfl) (heap_alloc_new _ _) (Nat.le_trans HI.out.1.size (Nat.le_trans HO.out.size (by simp))) (by have := HL.out.2.2; simp at this; omega) ?_; intro v2 w2 hown2 hgr hbl; have HG := Lib.hid (And.intro hown2 hgr); clear hown2 hgr hbl))
        have hb := HI.out.2.blk
        have hs1 := HI.out.1.size
        have hs2 := HO.out.size
        have hrd : Rd g r w2 := by
          refine (HG.out.2.block g (by simp; omega) (fun e => ?_)).trans ((Below.heap_alloc _ _ _ (by omega)).trans HR1.out)
          have := (hb g e.symm).1
          omega
        have hl1 := HL.out
        have hl2 := HR.out
        simp only [List.length_cons] at hl1 hl2
        refine ⟨⟨f.app (it.fo .nil), r, m, hrd, by omega, ?_, ?_, HE.out, HG.out.1⟩, ?_⟩
        · rw [Fo.len_app, show (it.fo .nil).len = 1 by cases it <;> rfl]; omega
        · refine ((HI.out.1.thenO HO.out).alloc (by omega) _).trans (Only.grown HG.out.2 (fun k e => (hb k e).1) (by simp; omega))
        · rw [leftOf_rd hrd, hl1.1]; omega
end Go.Proofs.YtceagpnonkmfdaaGreat
end
section
namespace Go.Proofs.YtceagpnonkmfdaaGreat
open Go.RowKit

theorem item_zero : ItemC 0 := by
  intro g s n w hn hs h
  have hi : ¬ (n : Int) ≤ 64 := by omega
  go_enter Tryz.func78, Tryz.ntmps78
  go_wp2_with (go_at_call 79; refine (must_no _).mono ?_; rintro e w1 ⟨rfl, rfl⟩)
  exact ⟨rfl, (Only.refl _ _ _).alloc (Nat.le_refl _) _, rfl⟩
theorem index1 (b : UInt8) (W : World) : (Instr.index 9 (.string (str [b])) (.int .i64 0)).run Tryz.prog W = .ok (.int .u8 (b.toNat : Nat)) W := by
  rw [run_index_string W _ _ _ _ Tryz.underlying9, dif_pos ⟨by omega, by simp [str_size]⟩]
  rfl
/-- What item knows behind its first byte. -/
structure ItA (w : World) (g : Nat) (r : List UInt8) (W : World) : Prop where
  only : Only (fun k => k = g) w.heap.size w W
  rd : Rd g r W
  row : W.heap[w.heap.size]? = some (.cells #[.bool false, .string ⟨#[]⟩, .slice none 0 0] 108 (0, 0))
theorem ItA.lt {w : World} {g : Nat} {r : List UInt8} {W : World} (h : ItA w g r W) : w.heap.size < W.heap.size := lt_of h.row
theorem ItA.laterB {w : World} {g : Nat} {r : List UInt8} {W W' : World} (h : ItA w g r W) (hb : Below W.heap.size W W') : ItA w g r W' :=
  ⟨h.only.thenB hb, h.rd.later hb, (hb.block _ h.lt).trans h.row⟩
theorem ItA.laterO {w : World} {g : Nat} {r r' : List UInt8} {W W' : World} (hg : g < w.heap.size) (h : ItA w g r W) (ho : Only (fun k => k = g) W.heap.size W W') (hr : Rd g r' W') : ItA w g r' W' :=
  ⟨h.only.thenO ho, hr, (ho.block _ h.lt (by omega)).trans h.row⟩
theorem ItA.set {w : World} {g : Nat} {r : List UInt8} {W : World} (hg : g < w.heap.size) (h : ItA w g r W) (u0 u1 u2 : Value) :
    Only (fun k => k = g) w.heap.size w (((W.setCell ⟨w.heap.size, 0, none⟩ u0).setCell ⟨w.heap.size, 1, none⟩ u1).setCell ⟨w.heap.size, 2, none⟩ u2) ∧ Rd g r (((W.setCell ⟨w.heap.size, 0, none⟩ u0).setCell ⟨w.heap.size, 1, none⟩ u1).setCell ⟨w.heap.size, 2, none⟩ u2) := by
  refine ⟨((h.only.setCell (Or.inl (Nat.le_refl _)) _).setCell (Or.inl (Nat.le_refl _)) _).setCell (Or.inl (Nat.le_refl _)) _, ?_⟩
  have hb : Below w.heap.size W (((W.setCell ⟨w.heap.size, 0, none⟩ u0).setCell ⟨w.heap.size, 1, none⟩ u1).setCell ⟨w.heap.size, 2, none⟩ u2) := below_set3 (Below.refl _ _) (Nat.le_refl _) _ _ _
  exact (hb.block _ hg).trans h.rd
theorem takeOne {s : List UInt8} {b : UInt8} {r : List UInt8} (h : s = b :: r) : tk 1 s = some ([b], r) := by subst h; simp [tk]
set_option maxRecDepth 100000 in
set_option maxHeartbeats 1000000 in
theorem item_short (d : Nat) (g : Nat) (b : UInt8) (r : List UInt8) (hb : b.toNat < 128) (n : Nat) (w : World) (hn : n + (d + 1) = 65) (hs : (b :: r).length ≤ 100000) (h : Rd g (b :: r) w) :
    Calls Tryz.prog 78 #[.pointer (some ⟨g, 0, none⟩), .int .i64 n] w (ItR g w (some (.text [b] .nil, r))) := by
  have hi : (n : Int) ≤ 64 := by omega
  have hg := Lib.hid (lt_of h)
  have HR := Lib.hid h; clear h
  have HT := Lib.hid (fun W h => take_c g (b :: r) 1 (by omega) W h)
  rw [takeOne rfl] at HT
  have hx := index1 b
  have HB := Lib.hid (fun W => bare_c [b] W)
  rw [show bareL [b] = true by simpa [bareL] using hb] at HB
  have hb2 := b.toNat_lt
  generalize hs1 : str [b] = s1 at *
  have HS1 := Lib.hid hs1; clear hs1 hs hn
  go_enter Tryz.func78, Tryz.ntmps78
  go_wp2_with (first
    | (go_at_call 79; refine (must_ok _).mono ?_; rintro e w1 ⟨rfl, rfl⟩; have HA := Lib.hid (show ItA w g (b :: r) (w.alloc (.cells #[.bool false, .string ⟨#[]⟩, .slice none 0 0] 108)) from ⟨(Only.refl _ _ _).alloc (Nat.le_refl _) _, HR.out.later ((Below.refl _ _).alloc (Nat.le_refl _) _), heap_alloc_new _ _⟩))
    | (go_at_call 116; refine (HT.out _ HA.out.rd).mono ?_; rintro e w2 ⟨ho, rfl, hr⟩; have HA2 := Lib.hid (HA.out.laterO hg.out ho hr); clear HT ho hr; rw [HS1.out])
    | (go_at_call 117; refine (HB.out _).mono ?_; rintro e w3 ⟨rfl, rfl⟩)
    | (go_at_call 42; refine (text_c _ _).mono ?_; rintro e w3 ⟨rfl, hb3⟩; have HA3 := Lib.hid (HA2.out.laterB hb3); clear hb3; obtain ⟨⟨c0, c1, c2⟩, z0, z1, z2⟩ := cells3 HA3.out.row; unfold textV))
  have hE := HA3.out.set hg.out (.bool false) (.string s1) (.slice none 0 0)
  exact bodyPost_ret (results_cell_row Tryz.results78 _ _ _ _ _ _ _ rfl (heap_set3 HA3.out.row _ _ _) Tryz.underlying108 rfl (by kernel_rfl)) rfl
    ⟨hE.1, ⟨.text [b], _, rfl, rfl, by rw [← HS1.out]; rfl⟩, hE.2⟩
set_option maxRecDepth 100000 in
set_option maxHeartbeats 1000000 in
theorem item_text (d : Nat) (g : Nat) (b : UInt8) (r : List UInt8) (hb : 128 ≤ b.toNat) (hb2 : b.toNat < 192) (n : Nat) (w : World) (hn : n + (d + 1) = 65) (hs : (b :: r).length ≤ 100000) (h : Rd g (b :: r) w) :
    Calls Tryz.prog 78 #[.pointer (some ⟨g, 0, none⟩), .int .i64 n] w (ItR g w (textS (bodyP (b.toNat - 128) r))) := by
  have hi : (n : Int) ≤ 64 := by omega
  have hg := Lib.hid (lt_of h)
  have HR := Lib.hid h; clear h
  have HT := Lib.hid (fun W h => take_c g (b :: r) 1 (by omega) W h)
  rw [takeOne rfl] at HT
  have hx := index1 b
  have HB := Lib.hid (fun W => bare_c [b] W)
  rw [show bareL [b] = false by simp [bareL]; omega] at HB
  have hb3 := b.toNat_lt
  have HY := Lib.hid (fun W h => body_c g r (b.toNat - 128) (by omega) (by simp at hs; omega) W h)
  have hbi : (128 : Int) ≤ (b.toNat : Int) := by omega
  have hbj : (b.toNat : Int) < 192 := by omega
  have hbk : (b.toNat : Int) < 256 := by omega
  rw [show ((b.toNat - 128 : Nat) : Int) = (b.toNat : Int) - 128 by omega] at HY
  generalize hs1 : str [b] = s1 at *
  have HS1 := Lib.hid hs1; clear hs1 hn
  have HR2 := Lib.hid hb
  generalize bodyP (b.toNat - 128) r = y at *
  clear hb hb2
  generalize b.toNat = k at *
  rcases y with _ | ⟨x, r'⟩
  · go_enter Tryz.func78, Tryz.ntmps78
    go_wp2_with (first
      | (go_at_call 79; refine (must_ok _).mono ?_; rintro e w1 ⟨rfl, rfl⟩; have HA := Lib.hid (show ItA w g (b :: r) (w.alloc (.cells #[.bool false, .string ⟨#[]⟩, .slice none 0 0] 108)) from ⟨(Only.refl _ _ _).alloc (Nat.le_refl _) _, HR.out.later ((Below.refl _ _).alloc (Nat.le_refl _) _), heap_alloc_new _ _⟩))
      | (go_at_call 116; refine (HT.out _ HA.out.rd).mono ?_; rintro e w2 ⟨ho, rfl, hr⟩; have HA2 := Lib.hid (HA.out.laterO hg.out ho hr); clear HT ho hr; rw [HS1.out])
      | (go_at_call 117; refine (HB.out _).mono ?_; rintro e w3 ⟨rfl, rfl⟩; clear HB)
      | (go_at_call 118; refine (HY.out _ HA2.out.rd).mono ?_; rintro e w4 ⟨ho, rfl⟩; have HO := Lib.hid ho; clear ho))
    exact ⟨rfl, HA2.out.only.thenO HO.out, rfl⟩
  · have HBX := Lib.hid (fun W => bare_c x W)
    simp only [textS]
    cases hbx : bareL x
    · rw [hbx] at HBX
      clear hbx
      go_enter Tryz.func78, Tryz.ntmps78
      go_wp2_with (first
        | (go_at_call 79; refine (must_ok _).mono ?_; rintro e w1 ⟨rfl, rfl⟩; clear HR2; have HA := Lib.hid (show ItA w g (b :: r) (w.alloc (.cells #[.bool false, .string ⟨#[]⟩, .slice none 0 0] 108)) from ⟨(Only.refl _ _ _).alloc (Nat.le_refl _) _, HR.out.later ((Below.refl _ _).alloc (Nat.le_refl _) _), heap_alloc_new _ _⟩))
        | (go_at_call 116; refine (HT.out _ HA.out.rd).mono ?_; rintro e w2 ⟨ho, rfl, hr⟩; have HA2 := Lib.hid (HA.out.laterO hg.out ho hr); clear HT ho hr; rw [HS1.out])
        | (go_at_call 117; refine (HB.out _).mono ?_; rintro e w3 ⟨rfl, rfl⟩; clear HB)
        | (go_at_call 79; refine (must_ok _).mono ?_; rintro e w1 ⟨rfl, rfl⟩)
        | (go_at_call 118; refine (HY.out _ HA2.out.rd).mono ?_; rintro e w4 ⟨ho, rfl, hr⟩; have HA3 := Lib.hid (HA2.out.laterO hg.out ho hr); clear ho hr; clear HY)
        | (go_at_call 117; refine (HBX.out _).mono ?_; rintro e w3 ⟨rfl, rfl⟩)
        | (go_at_call 42; refine (text_c _ _).mono ?_; rintro e w5 ⟨rfl, hb5⟩; have HA5 := Lib.hid (HA3.out.laterB hb5); clear hb5; obtain ⟨⟨c0, c1, c2⟩, z0, z1, z2⟩ := cells3 HA5.out.row; unfold textV))
      have hE := HA5.out.set hg.out (.bool false) (.string (str x)) (.slice none 0 0)
      exact bodyPost_ret (results_cell_row Tryz.results78 _ _ _ _ _ _ _ rfl (heap_set3 HA5.out.row _ _ _) Tryz.underlying108 rfl (by kernel_rfl)) rfl
        ⟨hE.1, ⟨.text x, _, rfl, rfl, rfl⟩, hE.2⟩
    · rw [hbx] at HBX
      clear hbx
      go_enter Tryz.func78, Tryz.ntmps78
      go_wp2_with (first
        | (go_at_call 79; refine (must_ok _).mono ?_; rintro e w1 ⟨rfl, rfl⟩; clear HR2; have HA := Lib.hid (show ItA w g (b :: r) (w.alloc (.cells #[.bool false, .string ⟨#[]⟩, .slice none 0 0] 108)) from ⟨(Only.refl _ _ _).alloc (Nat.le_refl _) _, HR.out.later ((Below.refl _ _).alloc (Nat.le_refl _) _), heap_alloc_new _ _⟩))
        | (go_at_call 116; refine (HT.out _ HA.out.rd).mono ?_; rintro e w2 ⟨ho, rfl, hr⟩; have HA2 := Lib.hid (HA.out.laterO hg.out ho hr); clear HT ho hr; rw [HS1.out])
        | (go_at_call 117; refine (HB.out _).mono ?_; rintro e w3 ⟨rfl, rfl⟩; clear HB)
        | (go_at_call 79; refine (must_no _).mono ?_; rintro e w1 ⟨rfl, rfl⟩)
        | (go_at_call 118; refine (HY.out _ HA2.out.rd).mono ?_; rintro e w4 ⟨ho, rfl, hr⟩; have HA3 := Lib.hid (HA2.out.laterO hg.out ho hr); clear ho hr; clear HY)
        | (go_at_call 117; refine (HBX.out _).mono ?_; rintro e w3 ⟨rfl, rfl⟩))
      exact ⟨rfl, HA3.out.only, rfl⟩
theorem ItA.laterI {w : World} {g : Nat} {r : List UInt8} {W W' : World} {o : Obj} (hg : g < w.heap.size) (h : ItA w g r W) (ho : Only (fun k => k = W.heap.size) (W.alloc o).heap.size (W.alloc o) W') : ItA w g r W' := by
  have hl := h.lt
  have hk : ∀ k, k < W.heap.size → W'.heap[k]? = W.heap[k]? := fun k hk => (ho.block k (by simp; omega) (by omega)).trans (Below.heap_alloc _ _ _ hk)
  have hs := ho.size
  simp at hs
  refine ⟨(h.only.alloc h.only.size o).trans (ho.mono (by simp; omega) (fun k hk e => by omega)), (hk g (by omega)).trans h.rd, (hk _ hl).trans h.row⟩
set_option maxRecDepth 100000 in
set_option maxHeartbeats 1000000 in
theorem item_list (d : Nat) (IH : ItemsC d) (g : Nat) (b : UInt8) (r : List UInt8) (hb : 192 ≤ b.toNat) (n : Nat) (w : World) (hn : n + (d + 1) = 65) (hs : (b :: r).length ≤ 100000) (h : Rd g (b :: r) w) :
    Calls Tryz.prog 78 #[.pointer (some ⟨g, 0, none⟩), .int .i64 n] w (ItR g w (listS (itemP d) (bodyP (b.toNat - 192) r))) := by
  have hi : (n : Int) ≤ 64 := by omega
  have hg := Lib.hid (lt_of h)
  have HR := Lib.hid h; clear h
  have HT := Lib.hid (fun W h => take_c g (b :: r) 1 (by omega) W h)
  rw [takeOne rfl] at HT
  have hx := index1 b
  have HB := Lib.hid (fun W => bare_c [b] W)
  rw [show bareL [b] = false by simp [bareL]; omega] at HB
  have hb3 := b.toNat_lt
  have HY := Lib.hid (fun W h => body_c g r (b.toNat - 192) (by omega) (by simp at hs; omega) W h)
  have hbi : (192 : Int) ≤ (b.toNat : Int) := by omega
  have hbj : ¬ (b.toNat : Int) < 192 := by omega
  have hbk : (b.toNat : Int) < 256 := by omega
  rw [show ((b.toNat - 192 : Nat) : Int) = (b.toNat : Int) - 192 by omega] at HY
  generalize hs1 : str [b] = s1 at *
  have HS1 := Lib.hid hs1; clear hs1
  have HR2 := Lib.hid hb
  have hY2 : ∀ x r', bodyP (b.toNat - 192) r = some (x, r') → x.length ≤ 100000 := fun x r' h => by have := bodyP_le h; simp at hs; omega
  generalize bodyP (b.toNat - 192) r = y at *
  clear hb
  generalize b.toNat = k at *
  rcases y with _ | ⟨x, r'⟩
  · clear hn hY2
    go_enter Tryz.func78, Tryz.ntmps78
    go_wp2_with (first
      | (go_at_call 79; refine (must_ok _).mono ?_; rintro e w1 ⟨rfl, rfl⟩; clear HR2; have HA := Lib.hid (show ItA w g (b :: r) (w.alloc (.cells #[.bool false, .string ⟨#[]⟩, .slice none 0 0] 108)) from ⟨(Only.refl _ _ _).alloc (Nat.le_refl _) _, HR.out.later ((Below.refl _ _).alloc (Nat.le_refl _) _), heap_alloc_new _ _⟩))
      | (go_at_call 116; refine (HT.out _ HA.out.rd).mono ?_; rintro e w2 ⟨ho, rfl, hr⟩; have HA2 := Lib.hid (HA.out.laterO hg.out ho hr); clear HT ho hr; rw [HS1.out])
      | (go_at_call 117; refine (HB.out _).mono ?_; rintro e w3 ⟨rfl, rfl⟩; clear HB)
      | (go_at_call 118; refine (HY.out _ HA2.out.rd).mono ?_; rintro e w4 ⟨ho, rfl⟩; have HO := Lib.hid ho; clear ho))
    exact ⟨rfl, HA2.out.only.thenO HO.out, rfl⟩
  · have HI := Lib.hid (fun (W : World) => IH W.heap.size x (n + 1) (W.alloc (.cells #[.string (str x)] 161)) (by omega) (hY2 x r' rfl) (heap_alloc_new _ _))
    rw [show ((n + 1 : Nat) : Int) = (n : Int) + 1 by omega] at HI
    clear hn hY2
    simp only [listS]
    generalize itemsP (itemP d) x.length x = z at *
    rcases z with _ | f
    · go_enter Tryz.func78, Tryz.ntmps78
      go_wp2_with (first
        | (go_at_call 79; refine (must_ok _).mono ?_; rintro e w1 ⟨rfl, rfl⟩; clear HR2; have HA := Lib.hid (show ItA w g (b :: r) (w.alloc (.cells #[.bool false, .string ⟨#[]⟩, .slice none 0 0] 108)) from ⟨(Only.refl _ _ _).alloc (Nat.le_refl _) _, HR.out.later ((Below.refl _ _).alloc (Nat.le_refl _) _), heap_alloc_new _ _⟩))
        | (go_at_call 116; refine (HT.out _ HA.out.rd).mono ?_; rintro e w2 ⟨ho, rfl, hr⟩; have HA2 := Lib.hid (HA.out.laterO hg.out ho hr); clear HT ho hr; rw [HS1.out])
        | (go_at_call 117; refine (HB.out _).mono ?_; rintro e w3 ⟨rfl, rfl⟩; clear HB)
        | (go_at_call 118; refine (HY.out _ HA2.out.rd).mono ?_; rintro e w4 ⟨ho, rfl, hr⟩; have HA3 := Lib.hid (HA2.out.laterO hg.out ho hr); clear ho hr; clear HY)
        | (go_at_call 119; refine (HI.out _).mono ?_; rintro e w5 ⟨ho, rfl⟩; have HA4 := Lib.hid (HA3.out.laterI hg.out ho); clear ho))
      exact ⟨rfl, HA4.out.only, rfl⟩
    · go_enter Tryz.func78, Tryz.ntmps78
      go_wp2_with (first
        | (go_at_call 79; refine (must_ok _).mono ?_; rintro e w1 ⟨rfl, rfl⟩; clear HR2; have HA := Lib.hid (show ItA w g (b :: r) (w.alloc (.cells #[.bool false, .string ⟨#[]⟩, .slice none 0 0] 108)) from ⟨(Only.refl _ _ _).alloc (Nat.le_refl _) _, HR.out.later ((Below.refl _ _).alloc (Nat.le_refl _) _), heap_alloc_new _ _⟩))
        | (go_at_call 116; refine (HT.out _ HA.out.rd).mono ?_; rintro e w2 ⟨ho, rfl, hr⟩; have HA2 := Lib.hid (HA.out.laterO hg.out ho hr); clear HT ho hr; rw [HS1.out])
        | (go_at_call 117; refine (HB.out _).mono ?_; rintro e w3 ⟨rfl, rfl⟩; clear HB)
        | (go_at_call 118; refine (HY.out _ HA2.out.rd).mono ?_; rintro e w4 ⟨ho, rfl, hr⟩; have HA3 := Lib.hid (HA2.out.laterO hg.out ho hr); clear ho hr; clear HY)
        | (go_at_call 119; refine (HI.out _).mono ?_; rintro e w5 ⟨ho, v, rfl, hv⟩; obtain ⟨va, vn, vc, rfl⟩ := hv.form; have HA4 := Lib.hid (HA3.out.laterI hg.out ho); have HV := Lib.hid (And.intro hv HA3.out.lt); clear ho hv; obtain ⟨⟨c0, c1, c2⟩, z0, z1, z2⟩ := cells3 HA4.out.row))
      have hE := HA4.out.set hg.out (.bool true) (.string ⟨#[]⟩) (.slice va vn vc)
      have hV := HV.out.1
      have hl := HV.out.2
      refine bodyPost_ret (results_cell_row Tryz.results78 _ _ _ _ _ _ _ rfl (heap_set3 HA4.out.row _ _ _) Tryz.underlying108 rfl (by kernel_rfl)) rfl
        ⟨hE.1, ⟨.list f, _, rfl, rfl, _, rfl, ?_⟩, hE.2⟩
      have hb : Below (w.heap.size + 1) w5 w5 := Below.refl _ _
      refine (hV.kept (W' := ((w5.setCell ⟨w.heap.size, 0, none⟩ (.bool true)).setCell ⟨w.heap.size, 1, none⟩ (.string ⟨#[]⟩)).setCell ⟨w.heap.size, 2, none⟩ (.slice va vn vc)) (fun k hk => ?_)).mono (fun k hk => ?_)
      · have h1 := hk.1
        simp at h1
        rw [heap_setCell_other _ _ _ _ (by simp; omega), heap_setCell_other _ _ _ _ (by simp; omega), heap_setCell_other _ _ _ _ (by simp; omega)]
      · have h1 := hk.1
        have h2 := hk.2
        simp at h1
        refine ⟨by omega, ?_⟩
        simpa [World.setCell] using h2
theorem item_succ {d : Nat} (IH : ItemsC d) : ItemC (d + 1) := by
  intro g s n w hn hs h
  rcases s with _ | ⟨b, r⟩
  · have hi : (n : Int) ≤ 64 := by omega
    have HR := Lib.hid h
    have HT := Lib.hid (fun W h => take_c g [] 1 (by simp) W h)
    have HA := Lib.hid (show Only (fun k => k = g) w.heap.size w (w.alloc (.cells #[.bool false, .string ⟨#[]⟩, .slice none 0 0] 108)) from (Only.refl _ _ _).alloc (Nat.le_refl _) _)
    clear h
    go_enter Tryz.func78, Tryz.ntmps78
    go_wp2_with (first
      | (go_at_call 79; refine (must_ok _).mono ?_; rintro e w1 ⟨rfl, rfl⟩)
      | (go_at_call 116; refine (HT.out _ (HR.out.later ((Below.refl _ _).alloc (Nat.le_refl _) _))).mono ?_; rintro e w2 ⟨ho, rfl⟩; have HA2 := Lib.hid (HA.out.thenO ho); clear ho HT))
    exact ⟨rfl, HA2.out, rfl⟩
  · show Calls _ _ _ _ (ItR g w (itemS (itemP d) (b :: r)))
    have hS : itemS (itemP d) (b :: r) = if b.toNat < 128 then some (.text [b] .nil, r) else if b.toNat < 192 then textS (bodyP (b.toNat - 128) r) else listS (itemP d) (bodyP (b.toNat - 192) r) := rfl
    rw [hS]
    by_cases h1 : b.toNat < 128
    · rw [if_pos h1]
      exact item_short d g b r h1 n w hn hs h
    · rw [if_neg h1]
      by_cases h2 : b.toNat < 192
      · rw [if_pos h2]
        exact item_text d g b r (by omega) h2 n w hn hs h
      · rw [if_neg h2]
        exact item_list d IH g b r (by omega) n w hn hs h
theorem item_any : ∀ d, ItemC d
  | 0 => item_zero
  | d + 1 => item_succ (items_c (item_any d))
end Go.Proofs.YtceagpnonkmfdaaGreat
end
section
namespace Go.Proofs.YtceagpnonkmfdaaGreat
open Go.RowKit

/-- The item of nothing. -/
def zeroV : Value := .agg #[.bool false, .string ⟨#[]⟩, .slice none 0 0]
theorem catch_panicking (a b : Nat) (v0 v1 v2 v3 : Value) (u : TypeId) (pv : Value) (older : List PanicEntry) (w : World) (ha : w.heap[a]? = some (.cells #[v0, v1, v2] 108 (0, 0))) (hb : w.heap[b]? = some (.cells #[v3] 27 (0, 0))) (hab : a ≠ b) :
    CallsD Tryz.prog 77 #[.pointer (some ⟨a, 0, none⟩), .pointer (some ⟨b, 0, none⟩)] (.panicking ({ v := .iface u pv, recovered := false } :: older)) w fun e u' w' =>
      e = .returned (.tuple #[]) ∧ u' = .panicking ({ v := .iface u pv, recovered := true } :: older) ∧
        w' = (((w.setCell ⟨a, 0, none⟩ (.bool false)).setCell ⟨a, 1, none⟩ (.string ⟨#[]⟩)).setCell ⟨a, 2, none⟩ (.slice none 0 0)).setCell ⟨b, 0, none⟩ (.int .i64 2) := by
  obtain ⟨⟨c0, c1, c2⟩, z0, z1, z2⟩ := cells3 ha
  have c3 := cell_of hb 0
  have z3 := free_of hb 0
  refine callsD_of_wpS Tryz.func77 rfl fun c₀ cs hu => ?_
  apply wpS_seq
  apply wpS_region
  simp [wpOpsS, go_sem, recoverD, hu, Tryz.ntmps77, Exit.thenS]
  refine wpS_cond (t := true) (by simp [Act.eval, Array.replicate]) ?_
  simp only [if_true]
  have c3' : w.cell? ⟨b, 0, none⟩ = some v3 := c3
  have hab' : ¬ b = a := fun e => hab e.symm
  apply wpS_region
  simp [wpOpsS, go_sem, c0, c1, c2, z0, z1, z2, c3', z3, bodyPostS, results, Tryz.results77]
theorem catch_idle (p q : Value) (w : World) :
    CallsD Tryz.prog 77 #[p, q] .returning w fun e u' w' => e = .returned (.tuple #[]) ∧ u' = .returning ∧ w' = w := by
  refine callsD_of_wpS Tryz.func77 rfl fun c₀ cs hu => ?_
  apply wpS_seq
  apply wpS_region
  simp [wpOpsS, go_sem, recoverD, hu, Tryz.ntmps77, Exit.thenS]
  refine wpS_cond (t := false) (by simp [Act.eval, Array.replicate]) ?_
  simp only [Bool.false_eq_true, if_false]
  refine wpS_of_wp (wp_skip ?_)
  cases c₀
  simp_all [bodyPostS, results, Tryz.results77]
theorem dec_results (tmps : Array Value) (w : World) (a b : Nat) (x y z v : Value) (hp : tmps.getD 2 undef = .pointer (some ⟨a, 0, none⟩)) (hq : tmps.getD 3 undef = .pointer (some ⟨b, 0, none⟩)) (ha : w.heap[a]? = some (.cells #[x, y, z] 108 (0, 0))) (hb : w.heap[b]? = some (.cells #[v] 27 (0, 0))) :
    (results Tryz.f52 tmps).run Tryz.prog w = .ok (.tuple #[.agg #[x, y, z], v]) w := by
  obtain ⟨⟨c0, c1, c2⟩, _⟩ := cells3 ha
  have c3 : w.cell? ⟨b, 0, none⟩ = some v := cell_of hb 0
  have hp' : tmps[2]?.getD undef = .pointer (some ⟨a, 0, none⟩) := by simpa using hp
  have hq' : tmps[3]?.getD undef = .pointer (some ⟨b, 0, none⟩) := by simpa using hq
  simp [results, Tryz.results52, hp', hq', go_sem, c0, c1, c2, c3]
/-- What Decode hands back. -/
def DecR (s : List UInt8) (w : World) (e : Ending) (w' : World) : Prop :=
  Below w.heap.size w w' ∧ if 65536 < s.length then e = .returned (.tuple #[zeroV, .int .i64 3]) else match decP s with
    | some f => ∃ (x : It) (v : Value), f = x.fo .nil ∧ e = .returned (.tuple #[v, .int .i64 0]) ∧ ItV (fun k => w.heap.size ≤ k ∧ k < w'.heap.size) x v w'
    | none => e = .returned (.tuple #[zeroV, .int .i64 2])
theorem hmf (fn : Fn) (first cap : Array Value) (w : World) : (Instr.makeFunc fn first cap).run Tryz.prog w = .ok (.func fn first cap) w := rfl
set_option maxRecDepth 100000 in
theorem decode_long (s : List UInt8) (hs : 65536 < s.length) (w : World) : Calls Tryz.prog 52 #[.string (str s)] w (DecR s w) := by
  have hi : (65536 : Int) < ((str s).size : Int) := by rw [str_size]; omega
  have HD := Lib.hid (show ∀ e w', DecR s w e w' = (Below w.heap.size w w' ∧ e = .returned (.tuple #[zeroV, .int .i64 3])) from fun e w' => by unfold DecR; rw [if_pos hs])
  generalize str s = x at *
  have hm := hmf
  go_enter_defers Tryz.func52, Tryz.ntmps52
  go_wp2_with fail
  refine ⟨_, dec_results _ _ w.heap.size (w.heap.size + 1) _ _ _ _ rfl rfl (heap_alloc2_old w _ _) (heap_alloc2_new w _ _), ?_⟩
  rw [HD.out]
  exact ⟨((Below.refl _ _).alloc (Nat.le_refl _) _).alloc (by simp) _, rfl⟩
theorem alloc3 (w : World) (A B o : Obj) : (((w.alloc A).alloc B).alloc o).heap[w.heap.size + 1 + 1]? = some o := by
  have h := heap_alloc_new ((w.alloc A).alloc B) o
  rwa [alloc_size, alloc_size] at h
theorem dec_keep {w w5 : World} {A B o : Obj} (ho : Only (fun k => k = w.heap.size + 1 + 1) (((w.alloc A).alloc B).alloc o).heap.size (((w.alloc A).alloc B).alloc o) w5) :
    w5.heap[w.heap.size]? = some A ∧ w5.heap[w.heap.size + 1]? = some B ∧ Below w.heap.size w w5 := by
  have hk : ∀ k, k < w.heap.size + 2 → w5.heap[k]? = ((w.alloc A).alloc B).heap[k]? := fun k hk => (ho.block k (by simp; omega) (by omega)).trans (Below.heap_alloc _ _ _ (by simp; omega))
  refine ⟨(hk _ (by omega)).trans (heap_alloc2_old w A B), (hk _ (by omega)).trans (heap_alloc2_new w A B), ?_⟩
  have h1 := Only.below ho (B' := w.heap.size) (by simp; omega) (fun k hk => by omega)
  exact ((((Below.refl w.heap.size w).alloc (Nat.le_refl _) A).alloc (by simp) B).alloc (by simp; omega) o).trans h1
theorem dec_end {w w5 : World} {a b : Nat} {v0 v1 v2 v : Value} {t t' : TypeId} (h0 : w5.heap[a]? = some (.cells #[v0, v1, v2] t (0, 0))) (h1 : w5.heap[b]? = some (.cells #[v] t' (0, 0))) (hab : a ≠ b) (ha : w.heap.size ≤ a) (hb : w.heap.size ≤ b) (h : Below w.heap.size w w5) (x0 x1 x2 y : Value) :
    ((((w5.setCell ⟨a, 0, none⟩ x0).setCell ⟨a, 1, none⟩ x1).setCell ⟨a, 2, none⟩ x2).setCell ⟨b, 0, none⟩ y).heap[a]? = some (.cells #[x0, x1, x2] t (0, 0)) ∧
    ((((w5.setCell ⟨a, 0, none⟩ x0).setCell ⟨a, 1, none⟩ x1).setCell ⟨a, 2, none⟩ x2).setCell ⟨b, 0, none⟩ y).heap[b]? = some (.cells #[y] t' (0, 0)) ∧
    Below w.heap.size w ((((w5.setCell ⟨a, 0, none⟩ x0).setCell ⟨a, 1, none⟩ x1).setCell ⟨a, 2, none⟩ x2).setCell ⟨b, 0, none⟩ y) := by
  refine ⟨?_, ?_, (below_set3 h ha _ _ _).setCell (p := ⟨b, 0, none⟩) hb _⟩
  · rw [heap_setCell_other _ _ _ _ (by simpa using hab)]
    exact heap_set3 h0 _ _ _
  · have e := heap_setCell_same (((w5.setCell ⟨a, 0, none⟩ x0).setCell ⟨a, 1, none⟩ x1).setCell ⟨a, 2, none⟩ x2) b 0 #[v] t' y (by
      rw [heap_setCell_other _ _ _ _ (by simpa using Ne.symm hab), heap_setCell_other _ _ _ _ (by simpa using Ne.symm hab), heap_setCell_other _ _ _ _ (by simpa using Ne.symm hab)]
      exact h1)
    simpa using e
set_option maxRecDepth 100000 in
set_option maxHeartbeats 1000000 in
theorem decode_none (s : List UInt8) (hs : s.length ≤ 65536) (hn : itemP 65 s = none) (w : World) : Calls Tryz.prog 52 #[.string (str s)] w (DecR s w) := by
  have hi : ¬ (65536 : Int) < ((str s).size : Int) := by rw [str_size]; omega
  have HD := Lib.hid (show ∀ e w', DecR s w e w' = (Below w.heap.size w w' ∧ e = .returned (.tuple #[zeroV, .int .i64 2])) from fun e w' => by unfold DecR decP; rw [if_neg (by omega), hn])
  have HI := Lib.hid (fun (g : Nat) (W : World) (h : Rd g s W) => (show Calls Tryz.prog 78 #[.pointer (some ⟨g, 0, none⟩), .int .i64 0] W (ItR g W (itemP 65 s)) from item_any 65 g s 0 W (by omega) (by omega) h))
  rw [hn] at HI
  have HR := Lib.hid (fun (A B : Obj) => (show Rd (w.heap.size + 1 + 1) s (((w.alloc A).alloc B).alloc (.cells #[.string (str s)] 161)) from alloc3 w A B _))
  generalize str s = x at *
  have hm := hmf
  go_enter_defers Tryz.func52, Tryz.ntmps52
  go_wp2_with (go_at_call 78; refine (HI.out _ _ (HR.out _ _)).mono ?_; rintro e w5 ⟨ho, rfl⟩; have HO := Lib.hid ho; clear ho)
  obtain ⟨h0, h1, hb⟩ := dec_keep HO.out
  refine leaves_cons (f := 77) (args := #[.pointer (some ⟨w.heap.size, 0, none⟩), .pointer (some ⟨w.heap.size + 1, 0, none⟩)]) (by simp) (by simp [go_sem]) ?_
  refine (catch_panicking w.heap.size (w.heap.size + 1) _ _ _ _ 27 (.int .i64 2) [] _ h0 h1 (by omega)).mono ?_
  rintro e u' w'' ⟨rfl, rfl, rfl⟩
  obtain ⟨g0, g1, gb⟩ := dec_end (x0 := .bool false) (x1 := .string ⟨#[]⟩) (x2 := .slice none 0 0) (y := .int .i64 2) h0 h1 (by omega) (Nat.le_refl _) (by omega) hb
  refine ⟨_, dec_results _ _ w.heap.size (w.heap.size + 1) _ _ _ _ rfl rfl g0 g1, ?_⟩
  rw [HD.out]
  exact ⟨gb, rfl⟩
set_option maxRecDepth 100000 in
set_option maxHeartbeats 1000000 in
theorem decode_more (s : List UInt8) (hs : s.length ≤ 65536) (f : Fo) (b : UInt8) (r : List UInt8) (hn : itemP 65 s = some (f, b :: r)) (w : World) : Calls Tryz.prog 52 #[.string (str s)] w (DecR s w) := by
  have hi : ¬ (65536 : Int) < ((str s).size : Int) := by rw [str_size]; omega
  have HD := Lib.hid (show ∀ e w', DecR s w e w' = (Below w.heap.size w w' ∧ e = .returned (.tuple #[zeroV, .int .i64 2])) from fun e w' => by unfold DecR decP; rw [if_neg (by omega), hn])
  have HI := Lib.hid (fun (g : Nat) (W : World) (h : Rd g s W) => (show Calls Tryz.prog 78 #[.pointer (some ⟨g, 0, none⟩), .int .i64 0] W (ItR g W (itemP 65 s)) from item_any 65 g s 0 W (by omega) (by omega) h))
  rw [hn] at HI
  have HR := Lib.hid (fun (A B : Obj) => (show Rd (w.heap.size + 1 + 1) s (((w.alloc A).alloc B).alloc (.cells #[.string (str s)] 161)) from alloc3 w A B _))
  generalize str s = x at *
  have hm := hmf
  have hne : (str (b :: r)).toList.isEmpty = false := by rw [ByteArray.toList_eq]; rfl
  go_enter_defers Tryz.func52, Tryz.ntmps52
  go_wp2_with (first
    | (go_at_call 78; refine (HI.out _ _ (HR.out _ _)).mono ?_; rintro e w5 ⟨ho, ⟨it, v, rfl, rfl, hv⟩, hr⟩; obtain ⟨b2, t2, va, vn, vc, rfl⟩ := hv.form; obtain ⟨h0, h1, hb⟩ := dec_keep ho; have c9 : w5.cell? ⟨w.heap.size + 1 + 1, 0, none⟩ = some (.string (str (b :: r))) := cell_of hr 0; obtain ⟨⟨c0, c1, c2⟩, z0, z1, z2⟩ := cells3 h0; have HK := Lib.hid (And.intro h0 (And.intro h1 hb)); clear h0 h1 hb ho hr hv; generalize str (b :: r) = y at *)
    | (go_at_call 79; refine (must_no _).mono ?_; rintro e w1 ⟨rfl, rfl⟩))
  obtain ⟨h0, h1, hb⟩ := HK.out
  have h0' := heap_set3 h0 (.bool b2) (.string t2) (.slice va vn vc)
  have h1' : (((w5.setCell ⟨w.heap.size, 0, none⟩ (.bool b2)).setCell ⟨w.heap.size, 1, none⟩ (.string t2)).setCell ⟨w.heap.size, 2, none⟩ (.slice va vn vc)).heap[w.heap.size + 1]? = some (.cells #[.int .i64 0] 27 (0, 0)) := by
    rw [heap_setCell_other _ _ _ _ (by simp), heap_setCell_other _ _ _ _ (by simp), heap_setCell_other _ _ _ _ (by simp)]
    exact h1
  have hb' := below_set3 hb (Nat.le_refl _) (.bool b2) (.string t2) (.slice va vn vc)
  refine leaves_cons (f := 77) (args := #[.pointer (some ⟨w.heap.size, 0, none⟩), .pointer (some ⟨w.heap.size + 1, 0, none⟩)]) (by simp) (by simp [go_sem]) ?_
  refine (catch_panicking w.heap.size (w.heap.size + 1) _ _ _ _ 27 (.int .i64 2) [] _ h0' h1' (by omega)).mono ?_
  rintro e u' w'' ⟨rfl, rfl, rfl⟩
  obtain ⟨g0, g1, gb⟩ := dec_end (x0 := .bool false) (x1 := .string ⟨#[]⟩) (x2 := .slice none 0 0) (y := .int .i64 2) h0' h1' (by omega) (Nat.le_refl _) (by omega) hb'
  refine ⟨_, dec_results _ _ w.heap.size (w.heap.size + 1) _ _ _ _ rfl rfl g0 g1, ?_⟩
  rw [HD.out]
  exact ⟨gb, rfl⟩
set_option maxRecDepth 100000 in
set_option maxHeartbeats 1000000 in
theorem decode_some (s : List UInt8) (hs : s.length ≤ 65536) (f : Fo) (hn : itemP 65 s = some (f, [])) (w : World) : Calls Tryz.prog 52 #[.string (str s)] w (DecR s w) := by
  have hi : ¬ (65536 : Int) < ((str s).size : Int) := by rw [str_size]; omega
  have HD := Lib.hid (show ∀ e w', DecR s w e w' = (Below w.heap.size w w' ∧ ∃ (x : It) (v : Value), f = x.fo .nil ∧ e = .returned (.tuple #[v, .int .i64 0]) ∧ ItV (fun k => w.heap.size ≤ k ∧ k < w'.heap.size) x v w') from fun e w' => by unfold DecR decP; rw [if_neg (by omega), hn])
  have HI := Lib.hid (fun (g : Nat) (W : World) (h : Rd g s W) => (show Calls Tryz.prog 78 #[.pointer (some ⟨g, 0, none⟩), .int .i64 0] W (ItR g W (itemP 65 s)) from item_any 65 g s 0 W (by omega) (by omega) h))
  rw [hn] at HI
  have HR := Lib.hid (fun (A B : Obj) => (show Rd (w.heap.size + 1 + 1) s (((w.alloc A).alloc B).alloc (.cells #[.string (str s)] 161)) from alloc3 w A B _))
  generalize str s = x at *
  have hm := hmf
  go_enter_defers Tryz.func52, Tryz.ntmps52
  go_wp2_with (first
    | (go_at_call 78; refine (HI.out _ _ (HR.out _ _)).mono ?_; rintro e w5 ⟨ho, ⟨it, v, rfl, rfl, hv⟩, hr⟩; obtain ⟨b2, t2, va, vn, vc, rfl⟩ := hv.form; obtain ⟨h0, h1, hb⟩ := dec_keep ho; have c9 : w5.cell? ⟨w.heap.size + 1 + 1, 0, none⟩ = some (.string ⟨#[]⟩) := cell_of hr 0; obtain ⟨⟨c0, c1, c2⟩, z0, z1, z2⟩ := cells3 h0; have c3 : w5.cell? ⟨w.heap.size + 1, 0, none⟩ = some (.int .i64 0) := cell_of h1 0; have z3 := free_of h1 0; have HK := Lib.hid (And.intro h0 (And.intro h1 (And.intro hb hv))); clear h0 h1 hb ho hr hv)
    | (go_at_call 79; refine (must_ok _).mono ?_; rintro e w1 ⟨rfl, rfl⟩))
  obtain ⟨h0, h1, hb, hv⟩ := HK.out
  have h0' := heap_set3 h0 (.bool b2) (.string t2) (.slice va vn vc)
  have h1' : (((w5.setCell ⟨w.heap.size, 0, none⟩ (.bool b2)).setCell ⟨w.heap.size, 1, none⟩ (.string t2)).setCell ⟨w.heap.size, 2, none⟩ (.slice va vn vc)).heap[w.heap.size + 1]? = some (.cells #[.int .i64 0] 27 (0, 0)) := by
    rw [heap_setCell_other _ _ _ _ (by simp), heap_setCell_other _ _ _ _ (by simp), heap_setCell_other _ _ _ _ (by simp)]
    exact h1
  have hb' := below_set3 hb (Nat.le_refl _) (.bool b2) (.string t2) (.slice va vn vc)
  obtain ⟨g0, g1, gb⟩ := dec_end (x0 := .bool b2) (x1 := .string t2) (x2 := .slice va vn vc) (y := .int .i64 0) h0' h1' (by omega) (Nat.le_refl _) (by omega) hb'
  refine leaves_cons (f := 77) (args := #[.pointer (some ⟨w.heap.size, 0, none⟩), .pointer (some ⟨w.heap.size + 1, 0, none⟩)]) (by simp) (by simp [go_sem]) ?_
  refine (catch_idle _ _ _).mono ?_
  rintro e u' w'' ⟨rfl, rfl, rfl⟩
  refine ⟨_, dec_results _ _ w.heap.size (w.heap.size + 1) _ _ _ _ rfl rfl g0 g1, ?_⟩
  rw [HD.out]
  refine ⟨gb, it, _, rfl, rfl, (hv.kept (fun k hk => ?_)).mono (fun k hk => ?_)⟩
  · have h1 := hk.1
    simp at h1
    rw [heap_setCell_other _ _ _ _ (by simp; omega), heap_setCell_other _ _ _ _ (by simp; omega), heap_setCell_other _ _ _ _ (by simp; omega), heap_setCell_other _ _ _ _ (by simp; omega), heap_setCell_other _ _ _ _ (by simp; omega), heap_setCell_other _ _ _ _ (by simp; omega), heap_setCell_other _ _ _ _ (by simp; omega)]
  · have h1 := hk.1
    have h2 := hk.2
    simp at h1
    refine ⟨by omega, ?_⟩
    simpa [World.setCell] using h2
theorem decode_c (s : List UInt8) (w : World) : Calls Tryz.prog 52 #[.string (str s)] w (DecR s w) := by
  by_cases hs : 65536 < s.length
  · exact decode_long s hs w
  · cases hn : itemP 65 s with
    | none => exact decode_none s (by omega) hn w
    | some q =>
      obtain ⟨f, r⟩ := q
      cases r with
      | nil => exact decode_some s (by omega) f hn w
      | cons b r => exact decode_more s (by omega) f b r hn w
end Go.Proofs.YtceagpnonkmfdaaGreat
end
