/- Merged: Fr, Fs, Ft, Fu, Fv, Fw. -/
import Derived.Test.YtceagpnonkmfdaaGreatM27
import Derived.Test.YtceagpnonkmfdaaGreatM20
section
namespace Go.Proofs.YtceagpnonkmfdaaGreat.Dz
open Go.RowKit
def addrP (n : Nat) : List UInt8 := if n % 5 = 0 then [97, 97, 97, 97, 97, 97, 97, 97, 97, 97, 97, 97, 97, 97, 97, 97, 97, 97, 97, 97] else if n % 5 = 1 then [98, 98, 98, 98, 98, 98, 98, 98, 98, 98, 98, 98, 98, 98, 98, 98, 98, 98, 98, 98] else if n % 5 = 2 then [99, 99, 99, 99, 99, 99, 99, 99, 99, 99, 99, 99, 99, 99, 99, 99, 99, 99, 99, 99] else if n % 5 = 3 then [115, 104, 111, 114, 116] else [100, 100, 100, 100, 100, 100, 100, 100, 100, 100, 100, 100, 100, 100, 100, 100, 100, 100, 100, 100]
set_option maxRecDepth 100000 in
theorem address_c (n : Nat) (hn : n < 256) (W : World) : Calls Tryz.prog 22 #[.int .u8 n] W fun e W' => e = .returned (.string (str (addrP n))) ∧ Below W.heap.size W W' := by
  obtain ⟨s, hs⟩ : ∃ s, s = W.alloc (.cells #[.string ⟨#[97, 97, 97, 97, 97, 97, 97, 97, 97, 97, 97, 97, 97, 97, 97, 97, 97, 97, 97, 97]⟩, .string ⟨#[98, 98, 98, 98, 98, 98, 98, 98, 98, 98, 98, 98, 98, 98, 98, 98, 98, 98, 98, 98]⟩, .string ⟨#[99, 99, 99, 99, 99, 99, 99, 99, 99, 99, 99, 99, 99, 99, 99, 99, 99, 99, 99, 99]⟩, .string ⟨#[115, 104, 111, 114, 116]⟩, .string ⟨#[100, 100, 100, 100, 100, 100, 100, 100, 100, 100, 100, 100, 100, 100, 100, 100, 100, 100, 100, 100]⟩] 9) := ⟨_, rfl⟩
  have hb : Below W.heap.size W s := by rw [hs]; exact (Below.refl _ _).alloc (Nat.le_refl _) _
  have hg := heap_alloc_new W (.cells #[.string ⟨#[97, 97, 97, 97, 97, 97, 97, 97, 97, 97, 97, 97, 97, 97, 97, 97, 97, 97, 97, 97]⟩, .string ⟨#[98, 98, 98, 98, 98, 98, 98, 98, 98, 98, 98, 98, 98, 98, 98, 98, 98, 98, 98, 98]⟩, .string ⟨#[99, 99, 99, 99, 99, 99, 99, 99, 99, 99, 99, 99, 99, 99, 99, 99, 99, 99, 99, 99]⟩, .string ⟨#[115, 104, 111, 114, 116]⟩, .string ⟨#[100, 100, 100, 100, 100, 100, 100, 100, 100, 100, 100, 100, 100, 100, 100, 100, 100, 100, 100, 100]⟩] 9)
  have c0 := cell_of hg 0
  have c1 := cell_of hg 1
  have c2 := cell_of hg 2
  have c3 := cell_of hg 3
  have c4 := cell_of hg 4
  rw [hs] at hb
  have HB := Lib.hid hb
  clear hb hg hs
  simp only [List.getElem?_toArray, List.getElem?_cons_zero, List.getElem?_cons_succ] at c0 c1 c2 c3 c4
  have hk : n % 5 = 0 ∨ n % 5 = 1 ∨ n % 5 = 2 ∨ n % 5 = 3 ∨ n % 5 = 4 := by omega
  rcases hk with hk | hk | hk | hk | hk
  · have hi : (n : Int) % 5 = 0 := by omega
    have HA := Lib.hid (show str (addrP n) = ⟨#[97, 97, 97, 97, 97, 97, 97, 97, 97, 97, 97, 97, 97, 97, 97, 97, 97, 97, 97, 97]⟩ by unfold addrP; rw [if_pos hk]; rfl)
    rw [HA.out]
    clear hk
    go_enter Tryz.func22, Tryz.ntmps22
    go_wp2_with fail
    go_ret
    exact ⟨rfl, HB.out⟩
  · have hi : (n : Int) % 5 = 1 := by omega
    have HA := Lib.hid (show str (addrP n) = ⟨#[98, 98, 98, 98, 98, 98, 98, 98, 98, 98, 98, 98, 98, 98, 98, 98, 98, 98, 98, 98]⟩ by unfold addrP; rw [if_neg (by omega), if_pos hk]; rfl)
    rw [HA.out]
    clear hk
    go_enter Tryz.func22, Tryz.ntmps22
    go_wp2_with fail
    go_ret
    exact ⟨rfl, HB.out⟩
  · have hi : (n : Int) % 5 = 2 := by omega
    have HA := Lib.hid (show str (addrP n) = ⟨#[99, 99, 99, 99, 99, 99, 99, 99, 99, 99, 99, 99, 99, 99, 99, 99, 99, 99, 99, 99]⟩ by unfold addrP; rw [if_neg (by omega), if_neg (by omega), if_pos hk]; rfl)
    rw [HA.out]
    clear hk
    go_enter Tryz.func22, Tryz.ntmps22
    go_wp2_with fail
    go_ret
    exact ⟨rfl, HB.out⟩
  · have hi : (n : Int) % 5 = 3 := by omega
    have HA := Lib.hid (show str (addrP n) = ⟨#[115, 104, 111, 114, 116]⟩ by unfold addrP; rw [if_neg (by omega), if_neg (by omega), if_neg (by omega), if_pos hk]; rfl)
    rw [HA.out]
    clear hk
    go_enter Tryz.func22, Tryz.ntmps22
    go_wp2_with fail
    go_ret
    exact ⟨rfl, HB.out⟩
  · have hi : (n : Int) % 5 = 4 := by omega
    have HA := Lib.hid (show str (addrP n) = ⟨#[100, 100, 100, 100, 100, 100, 100, 100, 100, 100, 100, 100, 100, 100, 100, 100, 100, 100, 100, 100]⟩ by unfold addrP; rw [if_neg (by omega), if_neg (by omega), if_neg (by omega), if_neg (by omega)]; rfl)
    rw [HA.out]
    clear hk
    go_enter Tryz.func22, Tryz.ntmps22
    go_wp2_with fail
    go_ret
    exact ⟨rfl, HB.out⟩
/-- What ForkNumbers asks. -/
def aB : AskP := ⟨0, addrP 1, 0, 1⟩
def rB (id nonce bal : Nat) : ReplyP := ⟨id, nonce, bal, [], 0⟩
def oB : ReplyP := ⟨2, 0, 0, [], 0⟩
def asks (a : AskP) (n : Nat) : List Nm := (List.range n).map fun i => ({ a with id := i + 1 } : AskP).enc
theorem aB_len : aB.addr.length = 20 := rfl
theorem aB_key : aB.Key := key_of rfl
theorem rB_wf {id nonce bal : Nat} (h1 : id < M64) (h2 : nonce < M64) (h3 : bal < W256) : (rB id nonce bal).Wf := ⟨h1, h2, h3, by show 0 < W256; decide⟩
theorem rB_ok (id nonce bal : Nat) : (rB id nonce bal).Ok 1 := ⟨by show ([] : Nm).length ≤ _; simp, Or.inl ⟨rfl, rfl⟩⟩
theorem oB_wf : oB.Wf := ⟨by show 2 < M64; unfold M64; omega, by show 0 < M64; unfold M64; omega, by show 0 < W256; decide, by show 0 < W256; decide⟩
theorem oB_ok : oB.Ok 2 := ⟨by show ([] : Nm).length ≤ _; simp, Or.inr ⟨rfl, rfl, rfl, rfl⟩⟩
theorem getR_oB : getR 1 (oB.enc 2) = none := (getR_is 1 (oB.enc 2)).one fun b _ _ e => reply_other (r := b) oB oB_wf oB_ok e.symm
theorem nums_pure {id nonce bal : Nat} (h1 : id < M64) (h2 : nonce < M64) (h3 : bal < W256) :
    ∃ (r : ReplyP) (e : Int) (p1 : Pd) (K : KL) (s : List Nm) (n : Nat), askP nmC (Pd.new 100000) ⟨[], [(rB id nonce bal).enc 1, oB.enc 2, (rB id nonce bal).enc 1], []⟩ aB = ((r, e), p1, ⟨K, s, asks aB n⟩) ∧ n ≤ 3 ∧
      ((id = 1 ∨ id = 3) → e = 0 ∧ r = rB 0 nonce bal ∧ n = id) ∧ (¬ (id = 1 ∨ id = 3) → e = 4 ∧ n = 3) := by
  have hg1 : getR 1 ((rB id nonce bal).enc 1) = some (rB id nonce bal) := getR_enc (rB_wf h1 h2 h3) (rB_ok _ _ _)
  have hnew : getK (⟨[], [(rB id nonce bal).enc 1, oB.enc 2, (rB id nonce bal).enc 1], []⟩ : Cl).known aB = none := rfl
  have hw0 : (rB 0 nonce bal).Wf := rB_wf (by unfold M64; omega) h2 h3
  have hfit : usedE (Pd.new 100000).L + (rB 0 nonce bal).code.length + 268 ≤ (Pd.new 100000).room := by show 0 + 0 + 268 ≤ 100000; omega
  by_cases e1 : id = 1
  · have ht : Cl.tries aB 3 ⟨[], [(rB id nonce bal).enc 1, oB.enc 2, (rB id nonce bal).enc 1], []⟩ = (some (rB 0 nonce bal), ⟨[], [oB.enc 2, (rB id nonce bal).enc 1], asks aB 1⟩) := by
      simp only [Cl.tries, List.headD_cons, aB, hg1]
      rw [if_pos (by show id = 0 + 1; omega)]
      rfl
    exact ⟨_, _, _, _, _, 1, by rw [askP_new aB_len hnew, learn_fits (Hl.new _) (ok_new (by omega)) ht aB_key hw0 (rB_ok _ _ _) hfit], by omega, fun _ => ⟨rfl, rfl, e1.symm⟩, fun h => absurd (Or.inl e1) h⟩
  · by_cases e3 : id = 3
    · have ht : Cl.tries aB 3 ⟨[], [(rB id nonce bal).enc 1, oB.enc 2, (rB id nonce bal).enc 1], []⟩ = (some (rB 0 nonce bal), ⟨[], [], asks aB 3⟩) := by
        simp only [Cl.tries, List.headD_cons, List.tail_cons, aB, hg1, getR_oB]
        rw [if_neg (by show ¬ id = 0 + 1; omega), if_pos (by show id = 0 + 1 + 1 + 1; omega)]
        rfl
      exact ⟨_, _, _, _, _, 3, by rw [askP_new aB_len hnew, learn_fits (Hl.new _) (ok_new (by omega)) ht aB_key hw0 (rB_ok _ _ _) hfit], by omega, fun _ => ⟨rfl, rfl, e3.symm⟩, fun h => absurd (Or.inr e3) h⟩
    · have ht : Cl.tries aB 3 ⟨[], [(rB id nonce bal).enc 1, oB.enc 2, (rB id nonce bal).enc 1], []⟩ = (none, ⟨[], [], asks aB 3⟩) := by
        simp only [Cl.tries, List.headD_cons, List.tail_cons, aB, hg1, getR_oB]
        rw [if_neg (by show ¬ id = 0 + 1; omega), if_neg (by show ¬ id = 0 + 1 + 1 + 1; omega)]
        rfl
      exact ⟨_, _, _, _, _, 3, by rw [askP_new aB_len hnew, learnP_none ht], by omega, fun h => absurd h (by omega), fun _ => ⟨rfl, rfl⟩⟩
end Go.Proofs.YtceagpnonkmfdaaGreat.Dz
end
section
namespace Go.Proofs.YtceagpnonkmfdaaGreat.Dz
open Go.RowKit
theorem Am.new2 {W V W1 W2 : World} {p : Pd} {d : Nat} {F : Nat → Prop} {name : Nm} {l : List Nm} {L : List (Nat × Obj)} (hB : Below W.heap.size W V) (h1 : On p d 0 F W1) (h2 : Chg (fun _ => False) F V W1) (h3 : CAt ⟨knownOf l, [], []⟩ name d (W1.heap.size + 1) W1.heap.size (.slice none 0 0) (.slice none 0 0) W2) (h4 : Below W1.heap.size W1 W2)
    (hL : ∀ x ∈ L, V.heap[x.1]? = some x.2 ∧ W.heap.size ≤ x.1) : Am p ⟨knownOf l, [], []⟩ name d 0 F (W1.heap.size + 1) W1.heap.size (.slice none 0 0) (.slice none 0 0) W (fun _ => False) L W2 := by
  have hc : Chg (fun _ => False) F W W1 := by
    refine ⟨h2.os.trans hB.os, h2.tape.trans hB.tape, h2.output.trans hB.output, Nat.le_trans hB.size h2.size, fun k hk hn => (h2.block k (Nat.lt_of_lt_of_le hk hB.size) hn).trans (hB.block k hk), fun k hk => ?_⟩
    rcases h2.new k hk with h | h
    · exact Or.inl h
    · have := hB.size; exact Or.inr (by omega)
  have h0 := Am.new (name := name) (l := l) h1 hc h3 h4
  refine ⟨h0.bo, h0.chg, fun x hx => ?_⟩
  obtain ⟨e1, e2⟩ := hL x hx
  have hlt := lt_of e1
  have hs := h2.size
  refine ⟨(h4.block _ (by omega)).trans ((h2.block _ hlt (fun h => h)).trans e1), e2, fun hf => ?_⟩
  rcases hf with hf | hf | hf | hf | hf
  · rcases h2.new _ hf with h | h
    · exact h
    · omega
  · omega
  · omega
  · cases hf
  · cases hf
theorem src_lit (W : World) (l : List Nm) : Src (l.map encS) (some ⟨W.heap.size, 0, none⟩) (W.alloc (.cells (l.map encS).toArray 9)) := by
  refine Or.inr ⟨_, rfl, fun j u hj => ?_⟩
  have e : (⟨W.heap.size, 0, none⟩ : Addr).add j = ⟨W.heap.size, j, none⟩ := by unfold Addr.add; split <;> simp_all
  rw [e, cell_of (heap_alloc_new W (.cells (l.map encS).toArray 9))]
  simpa using hj
theorem accB (nonce bal : Nat) : accC (rB 0 nonce bal) = #[.int .u64 nonce, .int .u64 (l3 bal : Nat), .int .u64 (l2 bal : Nat), .int .u64 (l1 bal : Nat), .int .u64 (l0 bal : Nat), .string ⟨#[]⟩] := rfl
theorem repB (id nonce bal : Nat) : replyV (rB id nonce bal) = .agg #[.int .u64 id, .int .u64 nonce, .int .u64 (l3 bal : Nat), .int .u64 (l2 bal : Nat), .int .u64 (l1 bal : Nat), .int .u64 (l0 bal : Nat), .string ⟨#[]⟩, .int .u64 0, .int .u64 0, .int .u64 0, .int .u64 0] := by
  have h0 : str [] = ⟨#[]⟩ := rfl
  simp [replyV, rB, lim_zero, h0]
theorem repO : replyV oB = .agg #[.int .u64 2, .int .u64 0, .int .u64 0, .int .u64 0, .int .u64 0, .int .u64 0, .string ⟨#[]⟩, .int .u64 0, .int .u64 0, .int .u64 0, .int .u64 0] := rfl
set_option maxRecDepth 100000 in
theorem eq_acc (r : ReplyP) (w : World) : (binOp .eql 53 (.agg (accC r)) (.agg (accC r))).run Tryz.prog w = .ok (.bool true) w := by
  have u3 := Tryz.underlying41
  have a3' := Tryz.isAgg41
  have z3 := Tryz.sizeOf41
  have u9 := Tryz.underlying9
  have a9 := Tryz.isAgg9
  have z9 := Tryz.sizeOf9
  have uW := Tryz.underlying51
  have aW := Tryz.isAgg51
  have zW := Tryz.sizeOf51
  have hS : Tryz.prog.underlying 53 = some (.struct (Tryz.prog.fieldsOf 53)) := by kernel_rfl
  have hp : Tryz.prog.stoodInHeld 53 = false := by kernel_rfl
  have hSA : Tryz.prog.underlying 53 = some (.struct (Tryz.prog.fieldsOf 53)) := by kernel_rfl
  have hpA : Tryz.prog.stoodInHeld 53 = false := by kernel_rfl
  have hSW : Tryz.prog.underlying 51 = some (.struct (Tryz.prog.fieldsOf 51)) := by kernel_rfl
  have hpW : Tryz.prog.stoodInHeld 51 = false := by kernel_rfl
  unfold accC
  rw [run_eql_struct, show (10000 : Nat) = 9999 + 1 from rfl, run_equalIn_agg w 9999 53 _ _ hS hp]
  simp only [Program.fieldsOf, Tryz.underlying53]
  go_simp
set_option maxRecDepth 100000 in
set_option maxHeartbeats 8000000 in
theorem numbers_c (id nonce bal : Nat) (code : ByteArray) (h1 : id < M64) (h2 : nonce < M64) (h3 : bal < W256) (W : World) :
    Calls Tryz.prog 5 #[.int .u64 id, .agg #[.int .u64 nonce, .int .u64 (l3 bal : Nat), .int .u64 (l2 bal : Nat), .int .u64 (l1 bal : Nat), .int .u64 (l0 bal : Nat), .string code]] W fun e W' => e = .returned (.bool true) ∧ Below W.heap.size W W' := by
  obtain ⟨r, e0, p1, K, sc, n, hask, hn3, hyes, hno⟩ := nums_pure h1 h2 h3
  have HP := Lib.hid (And.intro hask (And.intro hn3 (And.intro hyes hno)))
  have Q1 := Lib.hid (fun V => putReply_ok (kind := 1) (rB_wf h1 h2 h3) (rB_ok id nonce bal) V)
  have Q2 := Lib.hid (fun V => putReply_ok (kind := 2) oB_wf oB_ok V)
  rw [repB] at Q1
  rw [repO] at Q2
  have HI := Lib.hid h1
  clear hask hn3 hyes hno h1 h2 h3
  go_enter Tryz.func5, Tryz.ntmps5
  go_wp2_with fail
  refine (exam_c _).mono ?_
  rintro e V1 ⟨rfl, hb⟩
  have B1 := ((Bl.start W).alloc (.cells #[.int .u64 nonce, .int .u64 (l3 bal : Nat), .int .u64 (l2 bal : Nat), .int .u64 (l1 bal : Nat), .int .u64 (l0 bal : Nat), .string code] 53 (0, 0))).call hb
  have k1 := B1.at (q := W.heap.size) (List.mem_cons_self ..)
  have k2 := heap_setCell_same V1 W.heap.size 5 _ _ (.string ⟨#[]⟩) k1
  have B2 := B1.put (chg_set (F := fun k => k = W.heap.size) (F' := fun k => k = W.heap.size) (Chg.refl _ V1) (Or.inl rfl) 5 (.string ⟨#[]⟩)) (o' := acO (rB 0 nonce bal)) (by rw [k2]; rfl) (by simp)
  obtain ⟨⟨_, _, _, _, _, c5⟩, _, _, _, _, _, d5⟩ := cells6 k1
  clear k1 k2 B1 hb
  have HB := Lib.hid B2
  clear B2
  go_wp2_with fail
  refine (on_new 100000 (by omega) _).mono ?_
  rintro e W1 ⟨d, rfl, F1, h1, h2⟩
  have HN := Lib.hid (cnew_c (name := nmC) h1 (by show (1 : Nat) ≤ maxLen; unfold maxLen; omega) (l := []) (r := []) Fs.nil)
  have H1 := Lib.hid (And.intro h1 h2)
  clear h1 h2 c5 d5
  go_wp2_with fail
  refine HN.out.mono ?_
  rintro e W2 ⟨rfl, h3, h4⟩
  have M2 := Am.new2 (name := nmC) (l := []) HB.out.below H1.out.1 H1.out.2 h3 h4 (L := [(W.heap.size, acO (rB 0 nonce bal))]) (fun x hx => HB.out.box x hx)
  clear HN h3 h4 HB H1
  generalize W1.heap.size + 1 = b at *
  generalize W1.heap.size = m at *
  have HM2 := Lib.hid M2
  have k1 := M2.at (q := W.heap.size) (o := acO (rB 0 nonce bal)) (List.mem_cons_self ..)
  unfold acO at k1
  rw [accB] at k1
  obtain ⟨⟨x0, x1, x2, x3, x4, x5⟩, _⟩ := cells6 k1
  clear k1 M2
  go_wp2_with fail
  refine (Q1.out _).mono ?_
  rintro e W3 ⟨rfl, hb⟩
  have M3 := HM2.out.call hb
  clear HM2 hb x0 x1 x2 x3 x4 x5 Q1
  have HM3 := Lib.hid M3
  clear M3
  go_wp2_with fail
  refine (Q2.out _).mono ?_
  rintro e W4 ⟨rfl, hb⟩
  have M4 := HM3.out.call hb
  clear HM3 hb Q2
  have M5 := M4.call ((Below.refl _ _).alloc (Nat.le_refl _) (.cells #[.string (str ((rB id nonce bal).enc 1)), .string (str (oB.enc 2)), .string (str ((rB id nonce bal).enc 1))] 9))
  have HS := Lib.hid (script_m M5.bo.at' [(rB id nonce bal).enc 1, oB.enc 2, (rB id nonce bal).enc 1] (some ⟨W4.heap.size, 0, none⟩) 3 (src_lit W4 [(rB id nonce bal).enc 1, oB.enc 2, (rB id nonce bal).enc 1]) (by simp))
  have HM5 := Lib.hid M5
  clear M4 M5
  go_wp2_with fail
  refine HS.out.mono ?_
  rintro e W5 ⟨rfl, sv5, h5, h6⟩
  have M6 := HM5.out.client h5 h6
  clear HS HM5 h5 h6
  replace M6 : Am (Pd.new 100000) ⟨[], [(rB id nonce bal).enc 1, oB.enc 2, (rB id nonce bal).enc 1], []⟩ nmC d 0 F1 b m sv5 (.slice none 0 0) W (fun _ => False) [(W.heap.size, acO (rB 0 nonce bal))] W5 := M6
  have HM6 := Lib.hid M6
  clear M6
  have AD := Lib.hid (fun V => address_c 1 (by omega) V)
  go_wp2_with fail
  refine (AD.out _).mono ?_
  rintro e W6 ⟨rfl, hb⟩
  have M7 := HM6.out.call hb
  clear HM6 hb
  have hx : askP nmC (Pd.new 100000) ⟨[], [(rB id nonce bal).enc 1, oB.enc 2, (rB id nonce bal).enc 1], []⟩ ⟨0, addrP 1, 0, 1⟩ = _ := HP.out.1
  have A1 := Lib.hid (acct_c M7.bo (addrP 1) (by simp) (by omega) (by show (1 : Nat) ≤ 1000000; omega))
  rw [hx] at A1
  simp only at A1
  unfold accC at A1
  have HM7 := Lib.hid M7
  clear M7 hx
  go_wp2_with fail
  refine A1.out.mono ?_
  rintro e W7 ⟨rfl, F7, sv7, av7, hB, hC⟩
  have M8 := (HM7.out.step hB hC).alloc (acO r)
  clear HM7 A1 hB hC
  have hal : (asks aB n).length = n := by simp [asks]
  have AS := Lib.hid (asked_c M8.bo.at' (by rw [hal]; have := HP.out.2.1; omega))
  unfold acO accC at M8
  unfold acO accC at AS
  have HM8 := Lib.hid M8
  have HAL := Lib.hid hal
  clear M8 hal
  go_wp2_with fail
  refine AS.out.mono ?_
  rintro e W8 ⟨v8, rfl, k1, k2⟩
  have M9 := HM8.out.call k2
  obtain ⟨a8, c8, rfl⟩ := k1.form
  have HK := Lib.hid (And.intro M9 k1)
  rw [HAL.out]
  clear HM8 AS k1 k2 M9
  have hnn : n ≤ 3 := HP.out.2.1
  go_wp2_with fail
  go_loopw [16] (fun i wr => ∃ k : Nat, i = .int .i64 k ∧ k ≤ n ∧ Below W8.heap.size W8 wr) (fun i _ => n - (intOf i).toNat)
  case atStart => exact ⟨0, rfl, by omega, Below.refl _ _⟩
  case round =>
    obtain ⟨k, rfl, hk, hbl⟩ := hrel
    by_cases hlt : k < n
    · have hget : (asks aB n)[k]? = some (({ aB with id := k + 1 } : AskP).enc) := by simp [asks, hlt]
      obtain ⟨nn, hnn2⟩ : ∃ nn, n = nn + 1 := ⟨n - 1, by omega⟩
      obtain ⟨g, c, hsv, _, _, hc⟩ := HK.out.2.ptr (n := nn) (by rw [HAL.out]; exact hnn2)
      rw [HAL.out] at hsv
      obtain ⟨rfl, rfl⟩ : a8 = some ⟨g, 0, none⟩ ∧ c8 = c := by injection hsv with q1 _ q3; exact ⟨q1, q3⟩
      have c0 : wr.cell? ⟨g, k, none⟩ = some (.string (str (({ aB with id := k + 1 } : AskP).enc))) := (World.cell?_of_block (a := ⟨g, k, none⟩) (hbl.block _ (HK.out.2.lt (k := g) rfl).2)).trans (HK.out.2.cell rfl hget)
      have hlti : (k : Int) < (n : Int) := by omega
      have hk0 : (0 : Int) ≤ (k : Int) := by omega
      have hw : IntKind.i64.wrap ((k : Int) + 1) = (k : Int) + 1 := IntWalk.i64_in _ (by omega)
      obtain ⟨k1, hk1⟩ : ∃ k1, k1 = k + 1 := ⟨_, rfl⟩
      have hw2 : IntKind.u64.wrap ((k : Int) + 1) = (k1 : Int) := by rw [IntKind.wrap_u64]; omega
      have hyk : ({ aB with id := k + 1 } : AskP).Wf := ⟨by show k + 1 < M64; unfold M64; omega, aB_key.1.slot, aB_key.1.kind⟩
      have GA := Lib.hid (fun V => getAsk_some hyk aB_key.2.1 V)
      rw [show askV ({ aB with id := k + 1 } : AskP) = .agg #[.int .u64 (k1 : Nat), .string (str (addrP 1)), .int .u64 0, .int .u64 0, .int .u64 0, .int .u64 0, .int .i64 1] by simp [askV, aB, lim_zero, hk1]] at GA
      have HX := Lib.hid (And.intro hbl (And.intro hk (And.intro hlt hk1)))
      clear hget hnn2 hsv hc hbl hk hlt hk1 hyk
      go_wp2_with fail
      refine (GA.out _).mono ?_
      rintro e W9 ⟨rfl, hb⟩
      have b9 : Below W8.heap.size W8 W9 := HX.out.1.trans (hb.mono HX.out.1.size)
      have HB9 := Lib.hid b9
      clear GA c0 hb b9
      -- REGION 20
      go_wp2_with fail
      have hq0 := heap_alloc_new W9 (.cells #[.int .u64 (k1 : Nat), .string (str (addrP 1)), .int .u64 0, .int .u64 0, .int .u64 0, .int .u64 0, .int .i64 1] 65)
      have hbA : Below W8.heap.size W8 (W9.alloc (.cells #[.int .u64 (k1 : Nat), .string (str (addrP 1)), .int .u64 0, .int .u64 0, .int .u64 0, .int .u64 0, .int .i64 1] 65)).drew := (HB9.out.alloc HB9.out.size _).drew
      obtain ⟨q, hq⟩ : ∃ q, q = W9.heap.size := ⟨_, rfl⟩
      rw [← hq] at hq0 ⊢
      clear hq
      generalize World.alloc W9 _ = V0 at hq0 hbA ⊢
      have H0 : V0.drew.heap[q]? = some (.cells #[.int .u64 (k1 : Nat), .string (str (addrP 1)), .int .u64 0, .int .u64 0, .int .u64 0, .int .u64 0, .int .i64 1] 65 (0, 0)) := hq0
      clear hq0
      have HS := Lib.hid (fun (V : World) (hV : V.heap[q]? = some (.cells #[.int .u64 (k1 : Nat), .string (str (addrP 1)), .int .u64 0, .int .u64 0, .int .u64 0, .int .u64 0, .int .i64 1] 65 (0, 0))) => (cells7 hV).1)
      refine Drawn.start (fun V => V.heap[q]? = some (.cells #[.int .u64 (k1 : Nat), .string (str (addrP 1)), .int .u64 0, .int .u64 0, .int .u64 0, .int .u64 0, .int .i64 1] 65 (0, 0))) (fun _ => false) (by kernel_rfl) ?_
      generalize World.drew _ = V1 at hbA H0 ⊢
      refine Drawn.take 0 (some 77) (v := ?_) rfl rfl (by kernel_rfl) (by kernel_rfl) (by kernel_rfl) (by kernel_rfl) (by kernel_rfl) rfl (fun _ _ _ h => h) (Or.inl ⟨rfl, ?_⟩) H0 ?_
      rotate_left
      · intro W hW; have hW := HS.out W hW; go_simp; try with_reducible rfl
      simp only [put_list, List.set]
      refine Drawn.take 1 (some 78) (v := ?_) rfl rfl (by kernel_rfl) (by kernel_rfl) (by kernel_rfl) (by kernel_rfl) (by kernel_rfl) rfl (fun _ _ _ h => h) (Or.inl ⟨rfl, ?_⟩) H0 ?_
      rotate_left
      · intro W hW; have hW := HS.out W hW; go_simp; try with_reducible rfl
      simp only [put_list, List.set]
      refine Drawn.take 2 (some 79) (v := ?_) rfl rfl (by kernel_rfl) (by kernel_rfl) (by kernel_rfl) (by kernel_rfl) (by kernel_rfl) rfl (fun _ _ _ h => h) (Or.inl ⟨rfl, ?_⟩) H0 ?_
      rotate_left
      · intro W hW; have hW := HS.out W hW; go_simp; try with_reducible rfl
      simp only [put_list, List.set]
      refine Drawn.take 3 (some 80) (v := ?_) rfl rfl (by kernel_rfl) (by kernel_rfl) (by kernel_rfl) (by kernel_rfl) (by kernel_rfl) rfl (fun _ _ _ h => h) (Or.inl ⟨rfl, ?_⟩) H0 ?_
      rotate_left
      · intro W hW; have hW := HS.out W hW; go_simp; try with_reducible rfl
      simp only [put_list, List.set]
      refine Drawn.take 4 (some 81) (v := ?_) rfl rfl (by kernel_rfl) (by kernel_rfl) (by kernel_rfl) (by kernel_rfl) (by kernel_rfl) rfl (fun _ _ _ h => h) (Or.inl ⟨rfl, ?_⟩) H0 ?_
      rotate_left
      · intro W hW; have hW := HS.out W hW; go_simp; try with_reducible rfl
      simp only [put_list, List.set]
      refine Drawn.take 5 (some 82) (v := ?_) rfl rfl (by kernel_rfl) (by kernel_rfl) (by kernel_rfl) (by kernel_rfl) (by kernel_rfl) rfl (fun _ _ _ h => h) (Or.inl ⟨rfl, ?_⟩) H0 ?_
      rotate_left
      · intro W hW; have hW := HS.out W hW; go_simp; try with_reducible rfl
      simp only [put_list, List.set]
      refine Drawn.take 6 (some 83) (v := ?_) rfl rfl (by kernel_rfl) (by kernel_rfl) (by kernel_rfl) (by kernel_rfl) (by kernel_rfl) rfl (fun _ _ _ h => h) (Or.inl ⟨rfl, ?_⟩) H0 ?_
      rotate_left
      · intro W hW; have hW := HS.out W hW; go_simp; try with_reducible rfl
      simp only [put_list, List.set]
      refine Drawn.take 7 (some 84) (v := ?_) rfl rfl (by kernel_rfl) (by kernel_rfl) (by kernel_rfl) (by kernel_rfl) (by kernel_rfl) rfl (fun _ _ _ h => h) (Or.inl ⟨rfl, ?_⟩) H0 ?_
      rotate_left
      · intro W hW; have hW := HS.out W hW; go_simp; try with_reducible rfl
      simp only [put_list, List.set]
      refine Drawn.take 8 (some 85) (v := ?_) rfl rfl (by kernel_rfl) (by kernel_rfl) (by kernel_rfl) (by kernel_rfl) (by kernel_rfl) rfl (fun _ _ _ h => h) (Or.inl ⟨rfl, ?_⟩) H0 ?_
      rotate_left
      · intro W hW; have hW := HS.out W hW; go_simp; try with_reducible rfl
      simp only [put_list, List.set]
      refine Drawn.take 9 (some 86) (v := ?_) rfl rfl (by kernel_rfl) (by kernel_rfl) (by kernel_rfl) (by kernel_rfl) (by kernel_rfl) rfl (fun _ _ _ h => h) (Or.inl ⟨rfl, ?_⟩) H0 ?_
      rotate_left
      · intro W hW; have hW := HS.out W hW; go_simp; try with_reducible rfl
      simp only [put_list, List.set]
      refine Drawn.take 10 (some 87) (v := ?_) rfl rfl (by kernel_rfl) (by kernel_rfl) (by kernel_rfl) (by kernel_rfl) (by kernel_rfl) rfl (fun _ _ _ h => h) (Or.inl ⟨rfl, ?_⟩) H0 ?_
      rotate_left
      · intro W hW; have hW := HS.out W hW; go_simp; try with_reducible rfl
      simp only [put_list, List.set]
      refine Drawn.take 11 (some 88) (v := ?_) rfl rfl (by kernel_rfl) (by kernel_rfl) (by kernel_rfl) (by kernel_rfl) (by kernel_rfl) rfl (fun _ _ _ h => h) (Or.inl ⟨rfl, ?_⟩) H0 ?_
      rotate_left
      · intro W hW; have hW := HS.out W hW; go_simp; try with_reducible rfl
      simp only [put_list, List.set]
      refine Drawn.take 12 (some 89) (v := ?_) rfl rfl (by kernel_rfl) (by kernel_rfl) (by kernel_rfl) (by kernel_rfl) (by kernel_rfl) rfl (fun _ _ _ h => h) (Or.inl ⟨rfl, ?_⟩) H0 ?_
      rotate_left
      · intro W hW; have hW := HS.out W hW; go_simp; try with_reducible rfl
      simp only [put_list, List.set]
      refine Drawn.only 13 (by kernel_rfl) rfl rfl (fun K' hK => ?_)
      go_simp
      refine (AD.out _).mono ?_
      rintro e V2 ⟨rfl, hb⟩
      replace H0 := (hb.block _ (lt_of H0)).trans H0
      replace hbA := hbA.trans (hb.mono hbA.size)
      refine hK _ _ (fun _ _ => H0) ?_
      clear hK K' hb
      try simp only [put_list, List.set]
      refine Drawn.take 14 (some 91) (v := ?_) rfl rfl (by kernel_rfl) (by kernel_rfl) (by kernel_rfl) (by kernel_rfl) (by kernel_rfl) rfl (fun _ _ _ h => h) (Or.inl ⟨rfl, ?_⟩) H0 ?_
      rotate_left
      · intro W hW; have hW := HS.out W hW; go_simp; try with_reducible rfl
      simp only [put_list, List.set]
      refine Drawn.take 15 (some 92) (v := ?_) rfl rfl (by kernel_rfl) (by kernel_rfl) (by kernel_rfl) (by kernel_rfl) (by kernel_rfl) rfl (fun _ _ _ h => h) (Or.inl ⟨rfl, ?_⟩) H0 ?_
      rotate_left
      · intro W hW; have hW := HS.out W hW; go_simp; try with_reducible rfl
      simp only [put_list, List.set]
      refine Drawn.take 16 (some 93) (v := ?_) rfl rfl (by kernel_rfl) (by kernel_rfl) (by kernel_rfl) (by kernel_rfl) (by kernel_rfl) rfl (fun _ _ _ h => h) (Or.inl ⟨rfl, ?_⟩) H0 ?_
      rotate_left
      · intro W hW; have hW := HS.out W hW; go_simp; try with_reducible rfl
      simp only [put_list, List.set]
      refine Drawn.take 17 (some 94) (v := ?_) rfl rfl (by kernel_rfl) (by kernel_rfl) (by kernel_rfl) (by kernel_rfl) (by kernel_rfl) rfl (fun _ _ _ h => h) (Or.inl ⟨rfl, ?_⟩) H0 ?_
      rotate_left
      · intro W hW; have hW := HS.out W hW; go_simp; try with_reducible rfl
      simp only [put_list, List.set]
      refine Drawn.take 18 (some 95) (v := ?_) rfl rfl (by kernel_rfl) (by kernel_rfl) (by kernel_rfl) (by kernel_rfl) (by kernel_rfl) rfl (fun _ _ _ h => h) (Or.inl ⟨rfl, ?_⟩) H0 ?_
      rotate_left
      · intro W hW; have hW := HS.out W hW; go_simp; try with_reducible rfl
      simp only [put_list, List.set]
      refine Drawn.take 19 (some 96) (v := ?_) rfl rfl (by kernel_rfl) (by kernel_rfl) (by kernel_rfl) (by kernel_rfl) (by kernel_rfl) rfl (fun _ _ _ h => h) (Or.inl ⟨rfl, ?_⟩) H0 ?_
      rotate_left
      · intro W hW; have hW := HS.out W hW; go_simp; try with_reducible rfl
      simp only [put_list, List.set]
      refine Drawn.take 20 (some 97) (v := ?_) rfl rfl (by kernel_rfl) (by kernel_rfl) (by kernel_rfl) (by kernel_rfl) (by kernel_rfl) rfl (fun _ _ _ h => h) (Or.inl ⟨rfl, ?_⟩) H0 ?_
      rotate_left
      · intro W hW; have hW := HS.out W hW; go_simp; try with_reducible rfl
      simp only [put_list, List.set]
      refine Drawn.done (by kernel_rfl) ?_ _
      have HBA := Lib.hid hbA
      clear HS H0 hbA
      go_wp2_with fail
      obtain ⟨z1, z2, z3, z4⟩ := HX.out
      exact ⟨⟨k + 1, by go_num, by omega, HBA.out⟩, by simp [intOf]; omega⟩
    · obtain rfl : k = n := by omega
      have hlti : ¬ ((k : Nat) : Int) < (k : Int) := by omega
      have HBL := Lib.hid hbl
      have M10 := HK.out.1.call hbl
      have hq8 := M10.at (q := W.heap.size) (o := acO (rB 0 nonce bal)) (List.mem_cons_of_mem _ (List.mem_cons_self ..))
      obtain ⟨⟨x0, x1, x2, x3, x4, x5⟩, _⟩ := cells6 hq8
      obtain ⟨⟨y0, y1, y2, y3, y4, y5⟩, _⟩ := cells6 (M10.at (q := W7.heap.size) (List.mem_cons_self ..))
      have HM10 := Lib.hid M10
      clear M10 hq8 hk hlt hbl
      by_cases hid : id = 1 ∨ id = 3
      · obtain ⟨rfl, rfl, rfl⟩ := HP.out.2.2.1 hid
        have EA := eq_acc (rB 0 nonce bal)
        unfold accC at EA
        rcases hid with rfl | rfl
        · go_wp2_with fail
          go_ret
          exact ⟨rfl, HM10.out.bel⟩
        · go_wp2_with fail
          go_ret
          exact ⟨rfl, HM10.out.bel⟩
      · obtain ⟨rfl, rfl⟩ := HP.out.2.2.2 hid
        have n1 : (((id : Nat) : Int) == 1) = false := by simp; omega
        have n3 : (((id : Nat) : Int) == 3) = false := by simp; omega
        clear hid
        go_wp2_with fail
        go_ret
        exact ⟨rfl, HM10.out.bel⟩
end Go.Proofs.YtceagpnonkmfdaaGreat.Dz
end
section
namespace Go.Proofs.YtceagpnonkmfdaaGreat.Dz
open Go.RowKit
theorem Hl.add_full {p : Pd} (h : Hl p) (name : Nm) {xs : Nm} (hs : xs.length ≤ 65536) (hu : ¬ usedE p.L + xs.length + 8 ≤ p.room) : p.add name xs = (5, p) := by
  have ha : p.append name (fr xs) = (5, p) := by
    unfold Pd.append
    rw [if_neg (by rw [h.dead]; decide), if_neg (fun e => by have := h.after; omega), if_neg (by rw [fr_len]; omega), h.tick]
  unfold Pd.add
  rw [if_pos hs]
  simp only [runP, ha]
  rfl
theorem learn_full {name : Nm} {p : Pd} {c c1 : Cl} {a : AskP} {r : ReplyP} (hl : Hl p) (ht : c.tries a 3 = (some r, c1)) (ha : a.Key) (hw : r.Wf) (ho : r.Ok a.kind) (hu : ¬ usedE p.L + (recE a r).length + 8 ≤ p.room) :
    learnP name p c a = ((ReplyP.zero, 5), p, c1) := by
  have h1 := rec_len ha hw ho
  have h2 := ho.1
  have h3 := hl.add_full name (xs := recE a r) (by omega) hu
  rw [learnP_err ht (by rw [h3]; show (5 : Int) ≠ 0; decide), h3]
theorem Hl.add_ok {p : Pd} (h : Hl p) (hp : p.Ok) {name xs : Nm} (hs : xs.length ≤ 65536) (hu : usedE p.L + xs.length + 8 ≤ p.room) : (p.add name xs).2.Ok := by
  have hfl : usedE p.L + (fr xs).length ≤ p.room := by rw [fr_len]; omega
  have ha := h.append (s := name) hfl
  have hg : getE (p.app name (fr xs)).L name = some ⟨name, bsE (getE p.L name) ++ fr xs, synE (getE p.L name)⟩ := by
    show getE (putE _ _) _ = _
    rw [getE_put, if_pos rfl]
  have hH : Hl (p.app name (fr xs)) := h.with _
  have hb := hH.change hg fun e => putE (p.app name (fr xs)).L ⟨name, e.bs, e.bs.length⟩
  have ho := ((hp.app (s := name) hfl).putS hg (bsE (getE p.L name) ++ fr xs).length (Nat.le_refl _)).2
  rw [hH.tick] at ho
  unfold Pd.add
  rw [if_pos hs]
  simp only [runP, ha, if_pos]
  rw [show (p.app name (fr xs)).sync name = _ from hb]
  simp only [if_pos]
  exact ho
theorem step_acc {name : Nm} {p : Pd} {c : Cl} {id nonce bal : Nat} {addr : List UInt8} {s : List Nm} (hl : Hl p) (hp : p.Ok) (h1 : id < M64) (h2 : nonce < M64) (h3 : bal < W256) (hs : c.script = (rB id nonce bal).enc 1 :: s) (hi : id = c.asked.length + 1)
    (ha : addr.length = 20) (hk : getK c.known ⟨0, addr, 0, 1⟩ = none) :
    ∃ q : List Nm, q.length = c.asked.length + 1 ∧ ((∃ p1, askP name p c ⟨0, addr, 0, 1⟩ = ((rB 0 nonce bal, 0), p1, ⟨c.known ++ [(⟨0, addr, 0, 1⟩, rB 0 nonce bal)], s, q⟩) ∧ Hl p1 ∧ p1.Ok) ∨
      askP name p c ⟨0, addr, 0, 1⟩ = ((ReplyP.zero, 5), p, ⟨c.known, s, q⟩)) := by
  have hw0 : (rB 0 nonce bal).Wf := rB_wf (by unfold M64; omega) h2 h3
  have ht := tries_right (a := ⟨0, addr, 0, 1⟩) (n := 2) hs (rB_wf h1 h2 h3) (rB_ok _ _ _) hi
  have hlen := rec_len (key_of ha) hw0 (rB_ok 0 nonce bal)
  have hc0 : (rB 0 nonce bal).code.length = 0 := rfl
  refine ⟨c.asked ++ [(⟨c.asked.length + 1, addr, 0, 1⟩ : AskP).enc], by simp, ?_⟩
  rw [askP_new ha hk]
  by_cases hu : usedE p.L + (recE ⟨0, addr, 0, 1⟩ (rB 0 nonce bal)).length + 8 ≤ p.room
  · obtain ⟨p1, q1, q2, _⟩ := hl.add (name := name) (xs := recE ⟨0, addr, 0, 1⟩ (rB 0 nonce bal)) hp (by omega) hu
    have q3 := hl.add_ok hp (name := name) (xs := recE ⟨0, addr, 0, 1⟩ (rB 0 nonce bal)) (by omega) hu
    rw [q1] at q3
    refine Or.inl ⟨p1, ?_, q2, q3⟩
    rw [learnP_ok ht (by show (p.add name (recE ⟨0, addr, 0, 1⟩ (rB 0 nonce bal))).1 = 0; rw [q1])]
    rw [show (({ rB id nonce bal with id := 0 } : ReplyP)) = rB 0 nonce bal from rfl, q1, putK_new hk]
  · exact Or.inr (learn_full hl ht (key_of ha) hw0 (rB_ok _ _ _) hu)
def aX : AskP := ⟨0, addrP 0, 0, 1⟩
theorem full_pure {room nx bx ny yb : Nat} (hr : room ≤ 300) (h1 : nx < M64) (h2 : bx < W256) (h3 : ny < M64) (h4 : yb < W256) :
    ∃ (r1 : ReplyP) (e1 : Int) (p1 : Pd) (K1 : KL) (s1 q1 : List Nm) (r2 : ReplyP) (e2 : Int) (p2 : Pd) (K2 : KL) (s2 q2 : List Nm) (r3 : ReplyP) (e3 : Int) (K3 : KL) (s3 q3 : List Nm),
      askP nmC (Pd.new room) ⟨[], [(rB 1 nx bx).enc 1, (rB 2 ny yb).enc 1], []⟩ ⟨0, addrP 0, 0, 1⟩ = ((r1, e1), p1, ⟨K1, s1, q1⟩) ∧
      askP nmC p1 ⟨K1, s1, q1⟩ ⟨0, addrP 1, 0, 1⟩ = ((r2, e2), p2, ⟨K2, s2, q2⟩) ∧ askP nmC p2 ⟨K2, s2, q2⟩ ⟨0, addrP 0, 0, 1⟩ = ((r3, e3), p2, ⟨K3, s3, q3⟩) ∧ q1.length = 1 ∧ q2.length = 2 ∧
      ((e1 = 5 ∧ K1.length = 0 ∧ usedE p1.L = 0 ∧ (e2 = 0 ∨ e2 = 5) ∧ e3 = 4) ∨ (e1 = 0 ∧ K1.length = 1 ∧ e3 = 0 ∧ r3 = rB 0 nx bx ∧ (e2 = 0 ∧ K3.length = 2 ∨ e2 = 5 ∧ K3.length = 1 ∧ p2 = p1))) := by
  have hxy : (⟨0, addrP 0, 0, 1⟩ : AskP) ≠ ⟨0, addrP 1, 0, 1⟩ := by simp [addrP]
  have m1 : 1 < M64 := by unfold M64; omega
  have m2 : 2 < M64 := by unfold M64; omega
  obtain ⟨q1, a1, hA | hA⟩ := step_acc (name := nmC) (c := ⟨[], [(rB 1 nx bx).enc 1, (rB 2 ny yb).enc 1], []⟩) (addr := addrP 0) (Hl.new room) (ok_new (by omega)) m1 h1 h2 rfl rfl rfl rfl
  · obtain ⟨p1, hA, l1, o1⟩ := hA
    have g2 : getK [((⟨0, addrP 0, 0, 1⟩ : AskP), rB 0 nx bx)] ⟨0, addrP 1, 0, 1⟩ = none := by simp only [getK]; rw [if_neg hxy]
    obtain ⟨q2, a2, hB | hB⟩ := step_acc (name := nmC) (c := ⟨[(⟨0, addrP 0, 0, 1⟩, rB 0 nx bx)], [(rB 2 ny yb).enc 1], q1⟩) (addr := addrP 1) l1 o1 m2 h3 h4 rfl (by show 2 = q1.length + 1; rw [a1]; rfl) rfl g2
    · obtain ⟨p2, hB, l2, o2⟩ := hB
      have g3 : getK [((⟨0, addrP 0, 0, 1⟩ : AskP), rB 0 nx bx), (⟨0, addrP 1, 0, 1⟩, rB 0 ny yb)] ⟨0, addrP 0, 0, 1⟩ = some (rB 0 nx bx) := by simp [getK]
      exact ⟨_, _, p1, _, _, q1, _, _, p2, _, _, q2, _, _, _, _, _, hA, hB, askP_known rfl g3, a1, by rw [a2]; show q1.length + 1 = 2; rw [a1]; rfl, Or.inr ⟨rfl, rfl, rfl, rfl, Or.inl ⟨rfl, rfl⟩⟩⟩
    · have g3 : getK [((⟨0, addrP 0, 0, 1⟩ : AskP), rB 0 nx bx)] ⟨0, addrP 0, 0, 1⟩ = some (rB 0 nx bx) := by simp [getK]
      exact ⟨_, _, p1, _, _, q1, _, _, p1, _, _, q2, _, _, _, _, _, hA, hB, askP_known rfl g3, a1, by rw [a2]; show q1.length + 1 = 2; rw [a1]; rfl, Or.inr ⟨rfl, rfl, rfl, rfl, Or.inr ⟨rfl, rfl, rfl⟩⟩⟩
  · obtain ⟨q2, a2, hB | hB⟩ := step_acc (name := nmC) (c := ⟨[], [(rB 2 ny yb).enc 1], q1⟩) (addr := addrP 1) (Hl.new room) (ok_new (by omega)) m2 h3 h4 rfl (by show 2 = q1.length + 1; rw [a1]; rfl) rfl rfl
    · obtain ⟨p2, hB, l2, o2⟩ := hB
      have g3 : getK [((⟨0, addrP 1, 0, 1⟩ : AskP), rB 0 ny yb)] ⟨0, addrP 0, 0, 1⟩ = none := by simp only [getK]; rw [if_neg (Ne.symm hxy)]
      obtain ⟨q3, k1, k2⟩ := tries_nil ⟨0, addrP 0, 0, 1⟩ 3 ⟨[(⟨0, addrP 1, 0, 1⟩, rB 0 ny yb)], [], q2⟩ rfl
      exact ⟨_, _, _, _, _, q1, _, _, p2, _, _, q2, _, _, _, _, _, hA, hB, by exact (askP_new rfl g3).trans (learnP_none k1), a1, by rw [a2]; show q1.length + 1 = 2; rw [a1]; rfl, Or.inl ⟨rfl, rfl, rfl, Or.inl rfl, rfl⟩⟩
    · obtain ⟨q3, k1, k2⟩ := tries_nil ⟨0, addrP 0, 0, 1⟩ 3 ⟨[], [], q2⟩ rfl
      exact ⟨_, _, _, _, _, q1, _, _, _, _, _, q2, _, _, _, _, _, hA, hB, by exact (askP_new rfl rfl).trans (learnP_none k1), a1, by rw [a2]; show q1.length + 1 = 2; rw [a1]; rfl, Or.inl ⟨rfl, rfl, rfl, Or.inr rfl, rfl⟩⟩
end Go.Proofs.YtceagpnonkmfdaaGreat.Dz
end
section
namespace Go.Proofs.YtceagpnonkmfdaaGreat.Dz
open Go.RowKit
theorem on_used {p : Pd} {d N : Nat} {F : Nat → Prop} {W : World} (h : On p d N F W) : Calls Tryz.prog 25 #[.pointer (some ⟨d, 0, none⟩)] W fun e W' => e = .returned (.int .i64 (usedE p.L : Nat)) ∧ W' = W := by
  obtain ⟨_, x, rfl, _, h3, _, h5⟩ := h
  have h6 := used_c h3
  rw [h5.used] at h6
  exact h6
set_option maxRecDepth 100000 in
set_option maxHeartbeats 8000000 in
theorem full_c (room nx bx ny yb : Nat) (cx cy : ByteArray) (h0 : room < 65536) (h1 : nx < M64) (h2 : bx < W256) (h3 : ny < M64) (h4 : yb < W256) (W : World) :
    Calls Tryz.prog 6 #[.int .u16 room, .agg #[.int .u64 nx, .int .u64 (l3 bx : Nat), .int .u64 (l2 bx : Nat), .int .u64 (l1 bx : Nat), .int .u64 (l0 bx : Nat), .string cx], .agg #[.int .u64 ny, .int .u64 (l3 yb : Nat), .int .u64 (l2 yb : Nat), .int .u64 (l1 yb : Nat), .int .u64 (l0 yb : Nat), .string cy]] W fun e W' => e = .returned (.bool true) ∧ Below W.heap.size W W' := by
  obtain ⟨rm, hrm, hr⟩ : ∃ rm : Nat, (room : Int) % 301 = (rm : Int) ∧ rm ≤ 300 := ⟨room % 301, by omega, by omega⟩
  obtain ⟨r1, e1, p1, K1, s1, q1, r2, e2, p2, K2, s2, q2, r3, e3, K3, s3, q3, A1, A2, A3, n1, n2, hcs⟩ := full_pure hr h1 h2 h3 h4
  have HP := Lib.hid (And.intro A1 (And.intro A2 (And.intro A3 (And.intro n1 (And.intro n2 hcs)))))
  have Q1 := Lib.hid (fun V => putReply_ok (kind := 1) (rB_wf (id := 1) (by unfold M64; omega) h1 h2) (rB_ok 1 nx bx) V)
  have Q2 := Lib.hid (fun V => putReply_ok (kind := 1) (rB_wf (id := 2) (by unfold M64; omega) h3 h4) (rB_ok 2 ny yb) V)
  rw [repB] at Q1 Q2
  rw [show ((1 : Nat) : Int) = 1 from rfl] at Q1
  rw [show ((2 : Nat) : Int) = 2 from rfl] at Q2
  clear A1 A2 A3 n1 n2 hcs h1 h2 h3 h4
  go_enter Tryz.func6, Tryz.ntmps6
  go_wp2_with fail
  refine (exam_c _).mono ?_
  rintro e V1 ⟨rfl, hb⟩
  obtain ⟨oX, hoX⟩ : ∃ o : Obj, o = .cells #[.int .u64 nx, .int .u64 (l3 bx : Nat), .int .u64 (l2 bx : Nat), .int .u64 (l1 bx : Nat), .int .u64 (l0 bx : Nat), .string cx] 53 (0, 0) := ⟨_, rfl⟩
  obtain ⟨oY, hoY⟩ : ∃ o : Obj, o = .cells #[.int .u64 ny, .int .u64 (l3 yb : Nat), .int .u64 (l2 yb : Nat), .int .u64 (l1 yb : Nat), .int .u64 (l0 yb : Nat), .string cy] 53 (0, 0) := ⟨_, rfl⟩
  have B1 := (((Bl.start W).alloc oX).alloc oY).call (by rw [hoX, hoY]; exact hb)
  rw [alloc_size] at B1
  have kx := B1.at (q := W.heap.size) (o := oX) (List.mem_cons_of_mem _ (List.mem_cons_self ..))
  have ky := B1.at (q := W.heap.size + 1) (o := oY) (List.mem_cons_self ..)
  rw [hoX] at kx
  rw [hoY] at ky
  obtain ⟨⟨_, _, _, _, _, c5⟩, _, _, _, _, _, d5⟩ := cells6 kx
  obtain ⟨⟨_, _, _, _, _, g5⟩, _, _, _, _, _, f5⟩ := cells6 ky
  have k2 := heap_setCell_same V1 W.heap.size 5 _ _ (.string ⟨#[]⟩) kx
  have B2 := (B1.sub (L' := [(W.heap.size, oX), (W.heap.size + 1, oY)]) (by simp)).put (chg_set (F := fun k => k = W.heap.size) (F' := fun k => k = W.heap.size) (Chg.refl _ V1) (Or.inl rfl) 5 (.string ⟨#[]⟩)) (o' := acO (rB 0 nx bx)) (by rw [k2]; rfl) (by simp)
  have ky2 := B2.at (q := W.heap.size + 1) (o := oY) (List.mem_cons_of_mem _ (List.mem_cons_self ..))
  rw [hoY] at ky2
  have k3 := heap_setCell_same (V1.setCell ⟨W.heap.size, 5, none⟩ (.string ⟨#[]⟩)) (W.heap.size + 1) 5 _ _ (.string ⟨#[]⟩) ky2
  have B3 := (B2.sub (L' := [(W.heap.size + 1, oY), (W.heap.size, acO (rB 0 nx bx))]) (by simp)).put (chg_set (F := fun k => k = W.heap.size + 1) (F' := fun k => k = W.heap.size + 1) (Chg.refl _ (V1.setCell ⟨W.heap.size, 5, none⟩ (.string ⟨#[]⟩))) (Or.inl rfl) 5 (.string ⟨#[]⟩)) (o' := acO (rB 0 ny yb)) (by rw [k3]; rfl) (by simp)
  have HB := Lib.hid B3
  clear B1 B2 B3 kx ky ky2 k2 k3 hoX hoY hb
  go_wp2_with fail
  refine (on_new rm (by omega) _).mono ?_
  rintro e W1 ⟨d, rfl, F1, h1, h2⟩
  have HN := Lib.hid (cnew_c (name := nmC) h1 (by show (1 : Nat) ≤ maxLen; unfold maxLen; omega) (l := []) (r := []) Fs.nil)
  have H1 := Lib.hid (And.intro h1 h2)
  clear h1 h2 c5 d5 g5 f5
  go_wp2_with fail
  refine HN.out.mono ?_
  rintro e W2 ⟨rfl, h3, h4⟩
  have M2 := Am.new2 (name := nmC) (l := []) HB.out.below H1.out.1 H1.out.2 h3 h4 (L := [(W.heap.size + 1, acO (rB 0 ny yb)), (W.heap.size, acO (rB 0 nx bx))]) (fun x hx => HB.out.box x hx)
  clear HN h3 h4 HB H1
  generalize W1.heap.size + 1 = b at *
  generalize W1.heap.size = m at *
  have HM2 := Lib.hid M2
  have k1 := M2.at (q := W.heap.size) (o := acO (rB 0 nx bx)) (List.mem_cons_of_mem _ (List.mem_cons_self ..))
  unfold acO at k1
  rw [accB] at k1
  obtain ⟨⟨x0, x1, x2, x3, x4, x5⟩, _⟩ := cells6 k1
  clear k1 M2
  go_wp2_with fail
  refine (Q1.out _).mono ?_
  rintro e W3 ⟨rfl, hb⟩
  have M3 := HM2.out.call hb
  clear HM2 hb x0 x1 x2 x3 x4 x5 Q1
  have HM3 := Lib.hid M3
  have k1 := M3.at (q := W.heap.size + 1) (o := acO (rB 0 ny yb)) (List.mem_cons_self ..)
  unfold acO at k1
  rw [accB] at k1
  obtain ⟨⟨x0, x1, x2, x3, x4, x5⟩, _⟩ := cells6 k1
  clear k1 M3
  go_wp2_with fail
  refine (Q2.out _).mono ?_
  rintro e W4 ⟨rfl, hb⟩
  have M4 := HM3.out.call hb
  clear HM3 hb x0 x1 x2 x3 x4 x5 Q2
  have M5 := M4.call ((Below.refl _ _).alloc (Nat.le_refl _) (.cells #[.string (str ((rB 1 nx bx).enc 1)), .string (str ((rB 2 ny yb).enc 1))] 9))
  have HS := Lib.hid (script_m M5.bo.at' [(rB 1 nx bx).enc 1, (rB 2 ny yb).enc 1] (some ⟨W4.heap.size, 0, none⟩) 2 (src_lit W4 [(rB 1 nx bx).enc 1, (rB 2 ny yb).enc 1]) (by simp))
  have HM5 := Lib.hid M5
  clear M4 M5
  go_wp2_with fail
  refine HS.out.mono ?_
  rintro e W5 ⟨rfl, sv5, h5, h6⟩
  have M6 := HM5.out.client h5 h6
  clear HS HM5 h5 h6
  replace M6 : Am (Pd.new rm) ⟨[], [(rB 1 nx bx).enc 1, (rB 2 ny yb).enc 1], []⟩ nmC d 0 F1 b m sv5 (.slice none 0 0) W (fun _ => False) [(W.heap.size + 1, acO (rB 0 ny yb)), (W.heap.size, acO (rB 0 nx bx))] W5 := M6
  have HM6 := Lib.hid M6
  clear M6
  have AD := Lib.hid (fun V => address_c 0 (by omega) V)
  rw [show ((0 : Nat) : Int) = 0 from rfl] at AD
  have AE := Lib.hid (fun V => address_c 1 (by omega) V)
  rw [show ((1 : Nat) : Int) = 1 from rfl] at AE
  go_wp2_with fail
  refine (AD.out _).mono ?_
  rintro e W6 ⟨rfl, hb⟩
  have M7 := HM6.out.call hb
  clear HM6 hb
  have A1 := Lib.hid (acct_c M7.bo (addrP 0) (by simp) (by omega) (by show (1 : Nat) ≤ 1000000; omega))
  rw [HP.out.1] at A1
  simp only at A1
  unfold accC at A1
  have HM7 := Lib.hid M7
  clear M7
  go_wp2_with fail
  refine A1.out.mono ?_
  rintro e W7 ⟨rfl, F7, sv7, av7, hB, hC⟩
  have M8 := (HM7.out.step hB hC).alloc (acO r1)
  clear HM7 A1 hB hC
  unfold acO accC at M8
  have KN := Lib.hid (known_c M8.bo.at')
  have US := Lib.hid (on_used M8.bo.on)
  have HM8 := Lib.hid M8
  clear M8
  go_wp2_with fail
  refine KN.out.mono ?_
  rintro e W8 ⟨rfl, rfl⟩
  clear KN
  go_wp2_with fail
  refine US.out.mono ?_
  rintro e W9 ⟨rfl, rfl⟩
  clear US
  go_wp2_with fail
  refine (AE.out _).mono ?_
  rintro e W10 ⟨rfl, hb⟩
  have M10 := HM8.out.call hb
  clear HM8 hb
  have A2 := Lib.hid (acct_c M10.bo (addrP 1) (by show q1.length ≤ 1000000; rw [HP.out.2.2.2.1]; omega) (by omega) (by show (1 : Nat) ≤ 1000000; omega))
  rw [HP.out.2.1] at A2
  simp only at A2
  unfold accC at A2
  have HM10 := Lib.hid M10
  clear M10 AE
  go_wp2_with fail
  refine A2.out.mono ?_
  rintro e W11 ⟨rfl, F11, sv11, av11, hB, hC⟩
  have M11 := (HM10.out.step hB hC).alloc (acO r2)
  clear HM10 A2 hB hC
  unfold acO accC at M11
  have HM11 := Lib.hid M11
  clear M11
  go_wp2_with fail
  refine (AD.out _).mono ?_
  rintro e W12 ⟨rfl, hb⟩
  have M12 := HM11.out.call hb
  clear HM11 hb AD
  have A3 := Lib.hid (acct_c M12.bo (addrP 0) (by show q2.length ≤ 1000000; rw [HP.out.2.2.2.2.1]; omega) (by omega) (by show (1 : Nat) ≤ 1000000; omega))
  rw [HP.out.2.2.1] at A3
  simp only at A3
  unfold accC at A3
  have HM12 := Lib.hid M12
  clear M12
  go_wp2_with fail
  refine A3.out.mono ?_
  rintro e W13 ⟨rfl, F13, sv13, av13, hB, hC⟩
  have M13 := (HM12.out.step hB hC).alloc (acO r3)
  clear HM12 A3 hB hC
  have hx1 := M13.at (q := W.heap.size) (o := acO (rB 0 nx bx)) (List.mem_cons_of_mem _ (List.mem_cons_of_mem _ (List.mem_cons_of_mem _ (List.mem_cons_of_mem _ (List.mem_cons_self ..)))))
  unfold acO accC at M13 hx1
  have KN := Lib.hid (known_c M13.bo.at')
  have US := Lib.hid (on_used M13.bo.on)
  obtain ⟨⟨x0, x1, x2, x3, x4, x5⟩, _⟩ := cells6 hx1
  obtain ⟨⟨y0, y1, y2, y3, y4, y5⟩, _⟩ := cells6 (M13.at (q := W13.heap.size) (List.mem_cons_self ..))
  have HM13 := Lib.hid M13
  clear M13 hx1
  rcases HP.out.2.2.2.2.2 with ⟨rfl, z1, z2, z3, rfl⟩ | ⟨rfl, z1, rfl, rfl, z2⟩
  · rw [z1, z2]
    rcases z3 with rfl | rfl
    · go_wp2_with fail
      go_ret
      exact ⟨rfl, HM13.out.bel⟩
    · go_wp2_with fail
      go_ret
      exact ⟨rfl, HM13.out.bel⟩
  · rw [z1]
    have EA := eq_acc (rB 0 nx bx)
    unfold accC at EA
    rcases z2 with ⟨rfl, z3⟩ | ⟨rfl, z3, rfl⟩
    · rw [z3] at KN
      go_wp2_with fail
      refine KN.out.mono ?_
      rintro e W14 ⟨rfl, rfl⟩
      clear KN
      go_wp2_with fail
      go_ret
      exact ⟨rfl, HM13.out.bel⟩
    · rw [z3] at KN
      go_wp2_with fail
      refine KN.out.mono ?_
      rintro e W14 ⟨rfl, rfl⟩
      clear KN
      go_wp2_with fail
      refine US.out.mono ?_
      rintro e W15 ⟨rfl, rfl⟩
      clear US
      go_wp2_with fail
      go_ret
      exact ⟨rfl, HM13.out.bel⟩
end Go.Proofs.YtceagpnonkmfdaaGreat.Dz
namespace Go.Proofs.YtceagpnonkmfdaaGreat
theorem u16_of {n : Int} (h : (Lit.int .u16 n).wf = true) : ∃ k : Nat, n = (k : Int) ∧ k < 65536 := by
  have h' : 0 ≤ n ∧ n ≤ 65535 := by simpa [Lit.wf, IntKind.min, IntKind.max, IntKind.signed, IntKind.bits] using h
  exact ⟨n.toNat, by omega, by omega⟩
end Go.Proofs.YtceagpnonkmfdaaGreat
end
section
namespace Go.Proofs.YtceagpnonkmfdaaGreat.Dz
open Go.RowKit
def wrongP : Nm := [119, 114, 111, 110, 103]
theorem getR_wrong (kind : Int) : getR kind wrongP = none := (getR_is kind wrongP).one fun r _ _ e => by
  have := congrArg List.length e
  have h5 : wrongP.length = 5 := rfl
  have h1 := hd_pos 192 (r.fo kind).enc.length
  have h2 := encT_pos (Go.Proofs.YtceagpnonkmfdaaGreat.num r.id)
  have h3 : (r.fo kind).enc.length = (encT (Go.Proofs.YtceagpnonkmfdaaGreat.num r.id)).length + (if kind = 1 then Fo.text (Go.Proofs.YtceagpnonkmfdaaGreat.num r.nonce) (.text (wordL r.bal) (.text r.code .nil)) else .text (wordL r.value) .nil).enc.length := by
    unfold ReplyP.fo
    simp only [Fo.enc, List.length_append]
  simp only [ReplyP.enc, List.length_append, sum4_len, ReplyP.body, ReplyP.it, It.enc] at this
  omega
/-- Replies that are wrong are asked for again. -/
theorem tries_wrong (a : AskP) (n : Nat) (t : List Nm) : ∀ (j : Nat) (c : Cl), c.script = List.replicate j wrongP ++ t → ∃ q : List Nm, q.length = c.asked.length + j ∧ c.tries a (j + n) = Cl.tries a n ⟨c.known, t, q⟩ := by
  intro j
  induction j with
  | zero => exact fun c h => ⟨c.asked, rfl, by obtain ⟨k, s, q⟩ := c; simp only [List.replicate_zero, List.nil_append] at h; subst h; rw [Nat.zero_add]⟩
  | succ j ih =>
    intro c h
    obtain ⟨q, h1, h2⟩ := ih ⟨c.known, List.replicate j wrongP ++ t, c.asked ++ [({ a with id := c.asked.length + 1 } : AskP).enc]⟩ rfl
    refine ⟨q, by rw [h1]; simp; omega, ?_⟩
    rw [show j + 1 + n = (j + n) + 1 by omega]
    simp only [Cl.tries, h, List.replicate_succ, List.cons_append, List.headD_cons, getR_wrong, List.tail_cons]
    exact h2
theorem step_fit {name : Nm} {p : Pd} {c : Cl} {a : AskP} {r : ReplyP} {s : List Nm} {j : Nat} (hl : Hl p) (hp : p.Ok) (hw : r.Wf) (ho : r.Ok a.kind) (hs : c.script = List.replicate j wrongP ++ r.enc a.kind :: s) (hj : j ≤ 2) (hi : r.id = c.asked.length + j + 1)
    (ha : a.Key) (hn : a.addr.length = 20) (hk : getK c.known a = none) (hu : usedE p.L + r.code.length + 268 ≤ p.room) :
    ∃ (q : List Nm) (p1 : Pd), q.length = c.asked.length + j + 1 ∧ askP name p c a = (({ r with id := 0 }, 0), p1, ⟨c.known ++ [(a, { r with id := 0 })], s, q⟩) ∧ Hl p1 ∧ p1.Ok ∧ p1.room = p.room ∧ usedE p1.L ≤ usedE p.L + r.code.length + 268 ∧
      bsE (getE p1.L name) = bsE (getE p.L name) ++ fr (recE a { r with id := 0 }) ∧ (recE a { r with id := 0 }).length ≤ 65536 := by
  have hw0 : ({ r with id := 0 } : ReplyP).Wf := ⟨by show 0 < M64; unfold M64; omega, hw.2, hw.3, hw.4⟩
  have ho0 : ({ r with id := 0 } : ReplyP).Ok a.kind := ho
  obtain ⟨q, h1, h2⟩ := tries_wrong a (2 - j + 1) (r.enc a.kind :: s) j c hs
  have h3 := tries_right (a := a) (c := ⟨c.known, r.enc a.kind :: s, q⟩) (n := 2 - j) rfl hw ho (by rw [h1]; exact hi)
  rw [show j + (2 - j + 1) = 3 by omega, h3] at h2
  have hlen := rec_len ha hw0 ho0
  have hc0 : ({ r with id := 0 } : ReplyP).code.length = r.code.length := rfl
  have hc1 : r.code.length ≤ 24576 := ho.1
  obtain ⟨p1, q1, q2, q3, q4, q5, _⟩ := hl.add (name := name) (xs := recE a { r with id := 0 }) hp (by omega) (by omega)
  have q6 := hl.add_ok hp (name := name) (xs := recE a { r with id := 0 }) (by omega) (by omega)
  rw [q1] at q6
  refine ⟨q ++ [({ a with id := q.length + 1 } : AskP).enc], p1, by simp; omega, ?_, q2, q6, q3, by omega, by rw [q5]; rfl, by omega⟩
  rw [askP_new hn hk, learnP_ok h2 (by rw [q1]), q1, putK_new hk]
/-- What ForkOnce asks and is told. -/
def rC (id nonce bal : Nat) (code : Nm) : ReplyP := ⟨id, nonce, bal, code, 0⟩
def rV (id v : Nat) : ReplyP := ⟨id, 0, 0, [], v⟩
def aK (k : Nat) : AskP := ⟨0, addrP 0, k, 2⟩
theorem rC_wf {id nonce bal : Nat} (code : Nm) (h1 : id < M64) (h2 : nonce < M64) (h3 : bal < W256) : (rC id nonce bal code).Wf := ⟨h1, h2, h3, by show 0 < W256; decide⟩
theorem rC_ok (id nonce bal : Nat) {code : Nm} (h : code.length ≤ 60) : (rC id nonce bal code).Ok 1 := ⟨by show code.length ≤ _; omega, Or.inl ⟨rfl, rfl⟩⟩
theorem rV_wf {id v : Nat} (h1 : id < M64) (h2 : v < W256) : (rV id v).Wf := ⟨h1, by show 0 < M64; unfold M64; omega, by show 0 < W256; decide, h2⟩
theorem rV_ok (id v : Nat) : (rV id v).Ok 2 := ⟨by show ([] : Nm).length ≤ _; simp, Or.inr ⟨rfl, rfl, rfl, rfl⟩⟩
def scriptO (n : Nat) (s t : Nm) : List Nm := List.replicate n wrongP ++ [s, t]
/-- Three wrong ones, and nothing is known. -/
theorem once_far {n : Nat} {s t : Nm} (hn : 3 ≤ n) :
    ∃ q : List Nm, q.length = 3 ∧ askP nmC (Pd.new 100000) ⟨[], scriptO n s t, []⟩ aX = ((ReplyP.zero, 4), Pd.new 100000, ⟨[], List.replicate (n - 3) wrongP ++ [s, t], q⟩) := by
  obtain ⟨q, h1, h2⟩ := tries_wrong aX 0 (List.replicate (n - 3) wrongP ++ [s, t]) 3 ⟨[], scriptO n s t, []⟩ (by
    show List.replicate n wrongP ++ [s, t] = _
    rw [← List.append_assoc, List.replicate_append_replicate, show 3 + (n - 3) = n by omega])
  exact ⟨q, h1, (askP_new rfl rfl).trans (learnP_none h2)⟩
theorem once_near {n nonce bal k v : Nat} {code : Nm} (hn : n ≤ 2) (h2 : nonce < M64) (h3 : bal < W256) (hc : code.length ≤ 60) (hk : k < W256) (hv : v < W256) :
    ∃ (p1 p2 : Pd) (s1 q1 q2 : List Nm), askP nmC (Pd.new 100000) ⟨[], scriptO n ((rC (n + 1) nonce bal code).enc 1) ((rV (n + 2) v).enc 2), []⟩ aX = ((rC 0 nonce bal code, 0), p1, ⟨[(aX, rC 0 nonce bal code)], s1, q1⟩) ∧ q1.length ≤ 3 ∧
      askP nmC p1 ⟨[(aX, rC 0 nonce bal code)], s1, q1⟩ (aK k) = ((rV 0 v, 0), p2, ⟨[(aX, rC 0 nonce bal code), (aK k, rV 0 v)], [], q2⟩) ∧ q2.length = n + 2 ∧
      askP nmC p2 ⟨[(aX, rC 0 nonce bal code), (aK k, rV 0 v)], [], q2⟩ aX = ((rC 0 nonce bal code, 0), p2, ⟨[(aX, rC 0 nonce bal code), (aK k, rV 0 v)], [], q2⟩) ∧
      (∃ l, Fs (bsE (getE p2.L nmC)) l [] ∧ knownOf l = [(aX, rC 0 nonce bal code), (aK k, rV 0 v)]) ∧
      ∀ q : List Nm, askP nmC p2 ⟨[(aX, rC 0 nonce bal code), (aK k, rV 0 v)], [], q⟩ aX = ((rC 0 nonce bal code, 0), p2, ⟨[(aX, rC 0 nonce bal code), (aK k, rV 0 v)], [], q⟩) ∧
        askP nmC p2 ⟨[(aX, rC 0 nonce bal code), (aK k, rV 0 v)], [], q⟩ (aK k) = ((rV 0 v, 0), p2, ⟨[(aX, rC 0 nonce bal code), (aK k, rV 0 v)], [], q⟩) := by
  have hxy : aX ≠ aK k := by simp [aX, aK]
  have m1 : n + 1 < M64 := by unfold M64; omega
  have m2 : n + 2 < M64 := by unfold M64; omega
  have kX : aX.Key := key_of rfl
  have kK : (aK k).Key := key_slot rfl hk
  obtain ⟨q1, p1, a1, b1, c1, d1, e1, f1, g1, l1⟩ := step_fit (name := nmC) (c := ⟨[], scriptO n ((rC (n + 1) nonce bal code).enc 1) ((rV (n + 2) v).enc 2), []⟩) (a := aX) (r := rC (n + 1) nonce bal code) (Hl.new 100000) (ok_new (by omega)) (rC_wf code m1 h2 h3) (rC_ok _ _ _ hc) rfl hn (by show n + 1 = 0 + n + 1; omega) kX rfl rfl
    (by show 0 + code.length + 268 ≤ 100000; omega)
  have hc0 : (rC (n + 1) nonce bal code).code.length = code.length := rfl
  have hv0 : (rV (n + 2) v).code.length = 0 := rfl
  have hr0 : (Pd.new 100000).room = 100000 := rfl
  have hu0 : usedE (Pd.new 100000).L = 0 := rfl
  have a1' : q1.length = n + 1 := by rw [a1]; show 0 + n + 1 = n + 1; omega
  obtain ⟨q2, p2, a2, b2, c2, d2, e2, f2, g2, l2⟩ := step_fit (name := nmC) (c := ⟨[(aX, rC 0 nonce bal code)], [(rV (n + 2) v).enc 2], q1⟩) (a := aK k) (r := rV (n + 2) v) (s := []) (j := 0) c1 d1 (rV_wf m2 hv) (rV_ok _ _) rfl (by omega) (by show n + 2 = q1.length + 0 + 1; omega) kK rfl (by simp only [getK]; rw [if_neg hxy]) (by omega)
  have gX : getK [(aX, rC 0 nonce bal code), (aK k, rV 0 v)] aX = some (rC 0 nonce bal code) := by simp [getK]
  have gK : getK [(aX, rC 0 nonce bal code), (aK k, rV 0 v)] (aK k) = some (rV 0 v) := by simp only [getK]; rw [if_neg hxy]; simp
  have w0 : (rC 0 nonce bal code).Wf := rC_wf code (by unfold M64; omega) h2 h3
  have w1 : (rV 0 v).Wf := rV_wf (by unfold M64; omega) hv
  refine ⟨p1, p2, _, q1, q2, b1, by omega, b2, by rw [a2]; show q1.length + 0 + 1 = n + 2; omega, askP_known rfl gX, ⟨[recE aX (rC 0 nonce bal code), recE (aK k) (rV 0 v)], ?_, ?_⟩, fun q => ⟨askP_known rfl gX, askP_known rfl gK⟩⟩
  · have r1 : ({ rC (n + 1) nonce bal code with id := 0 } : ReplyP) = rC 0 nonce bal code := rfl
    have r2 : ({ rV (n + 2) v with id := 0 } : ReplyP) = rV 0 v := rfl
    rw [r1] at g1 l1
    rw [r2] at g2 l2
    rw [g1, show bsE (getE (Pd.new 100000).L nmC) = [] from rfl, List.nil_append] at g2
    rw [g2]
    have := Fs.own (l := [recE aX (rC 0 nonce bal code), recE (aK k) (rV 0 v)]) (by
      intro t ht
      simp only [List.mem_cons, List.not_mem_nil, or_false] at ht
      rcases ht with rfl | rfl
      · exact l1
      · exact l2)
    simp only [frs, List.append_nil] at this
    exact this
  · have s1 : knowT [] (recE aX (rC 0 nonce bal code)) = [(aX, rC 0 nonce bal code)] := by
      unfold knowT
      rw [factV_rec kX w0 (rC_ok _ _ _ hc) rfl]
      exact putK_new rfl _
    have s2 : knowT [(aX, rC 0 nonce bal code)] (recE (aK k) (rV 0 v)) = [(aX, rC 0 nonce bal code), (aK k, rV 0 v)] := by
      unfold knowT
      rw [factV_rec kK w1 (rV_ok _ _) rfl]
      exact putK_new (by simp only [getK]; rw [if_neg hxy]) _
    unfold knownOf
    rw [List.foldl_cons, List.foldl_cons, List.foldl_nil, s1, s2]
end Go.Proofs.YtceagpnonkmfdaaGreat.Dz
end
section
namespace Go.Proofs.YtceagpnonkmfdaaGreat.Dz
open Go.RowKit
section
variable {p q : Pd} {c c2 : Cl} {name : Nm} {d N N' : Nat} {F F' : Nat → Prop} {b m b2 m2 : Nat} {sv av sv2 av2 : Value} {W V V' : World} {L : List (Nat × Obj)}
/-- A client anew, on a disk that is there. -/
theorem Am.again {W2 : World} (h : On p d N F V) (h3 : CAt c2 name d (V.heap.size + 1) V.heap.size (.slice none 0 0) (.slice none 0 0) W2) (h4 : Below V.heap.size V W2) :
    Am p c2 name d N F (V.heap.size + 1) V.heap.size (.slice none 0 0) (.slice none 0 0) V F [] W2 := by
  refine ⟨⟨h.below h4, h3, fun k hk hf => ?_⟩, ⟨h4.os, h4.tape, h4.output, h4.size, fun k hk _ => h4.block k hk, fun k hk => ?_⟩, by simp⟩
  · have := h.lt hk
    rcases hf with rfl | rfl | hf | hf
    · omega
    · omega
    · cases hf
    · cases hf
  · rcases hk with hk | rfl | rfl | hk | hk
    · exact Or.inl hk
    · exact Or.inr (by omega)
    · exact Or.inr (Nat.le_refl _)
    · cases hk
    · cases hk
/-- The first one, after what the second one did. -/
theorem Am.back (h : Am p c name d N F b m sv av W (fun _ => False) L V) (h2 : Am q c2 name d N' F' b2 m2 sv2 av2 V F [] V') : Am q c name d N' F' b m sv av W (fun _ => False) L V' := by
  have hc : Chg (ftB F b m sv av) (ftB F' b m sv av) V V' := by
    refine ⟨h2.chg.os, h2.chg.tape, h2.chg.output, h2.chg.size, fun k hk hn => h2.chg.block k hk fun hf => hn (Or.inl hf), fun k hk => ?_⟩
    rcases hk with hk | hk
    · exact (h2.chg.new k (Or.inl hk)).imp (fun e => Or.inl e) id
    · exact Or.inl (Or.inr hk)
  refine h.step ⟨h2.bo.on, h.bo.at'.kept fun k hk => h2.chg.block k (h.bo.at'.lt hk) fun hf => h.bo.ap k hf hk, fun k hk hf => ?_⟩ hc
  rcases h2.chg.new k (Or.inl hk) with e | e
  · exact h.bo.ap k e hf
  · have := h.bo.at'.lt hf; omega
end
end Go.Proofs.YtceagpnonkmfdaaGreat.Dz
end
