/- Merged: Fn, Fo, Fp, Fq, Fr, Fs, Ft, Fu, Fv, Fw. -/
import Derived.Test.YtekoaheiapddiaaGreatU28
import Derived.Test.YtekoaheiapddiaaGreatU22
import Derived.Test.YtekoaheiapddiaaGreatU07
import Derived.Test.YtekoaheiapddiaaGreatU21
section
namespace Go.Proofs.YtekoaheiapddiaaGreat.Dz
open Go.RowKit
section
variable {p : Pd} {name : Nm} {d N : Nat} {F : Nat → Prop} {W : World}
theorem CAt.fresh : CAt ⟨[], [], []⟩ name d (W.heap.size + 1) W.heap.size (.slice none 0 0) (.slice none 0 0) ((W.alloc (.map #[] 0)).alloc (.cells (cellsC d W.heap.size name (.slice none 0 0) (.slice none 0 0)) 114)) := by
  have h1 := heap_alloc_new (W.alloc (.map #[] 0)) (.cells (cellsC d W.heap.size name (.slice none 0 0) (.slice none 0 0)) 114)
  rw [alloc_size] at h1
  exact ⟨h1, ⟨#[], 0, (Below.heap_alloc _ _ _ (by simp)).trans (MapKept.heap_alloc W _).1, rfl⟩, Of.nil _ _ _, World.ownsRow_nil _ _ _ _, fun k hk => (by cases hk), KOk.nil⟩
/-- Amid New: the client, the texts. -/
structure Nw (W : World) (name : Nm) (d : Nat) (K : KL) (l : List Nm) (v : Value) (V : World) : Prop where
  at' : CAt ⟨K, [], []⟩ name d (W.heap.size + 1) W.heap.size (.slice none 0 0) (.slice none 0 0) V
  below : Below W.heap.size W V
  row : OwnS (W.heap.size + 2) l v V
theorem Nw.call {K : KL} {l : List Nm} {v : Value} {V V' : World} (h : Nw W name d K l v V) (hb : Below V.heap.size V V') : Nw W name d K l v V' :=
  ⟨h.at'.below hb, h.below.trans (hb.mono h.below.size), h.row.keep hb⟩
theorem Nw.put {K K' : KL} {l : List Nm} {v : Value} {V : World} {o : Obj} (h : Nw W name d K l v V) (hK : KOk K') (ho : MapIs W.heap.size K' (ChangeMaps.setBlock V W.heap.size o)) : Nw W name d K' l v (ChangeMaps.setBlock V W.heap.size o) := by
  obtain ⟨h1, h2⟩ := h.at'.newKnown hK ho
  refine ⟨h1, ⟨h2.os.trans h.below.os, h2.tape.trans h.below.tape, h2.output.trans h.below.output, Nat.le_trans h.below.size h2.size, fun k hk => (setBlock_other (by omega)).trans (h.below.block k hk)⟩, own_keep h.row fun k hk => setBlock_other (by have := (h.row.lt hk).1; omega)⟩
set_option maxRecDepth 100000 in
set_option maxHeartbeats 8000000 in
theorem cnew_c (h : On p d N F W) (hs : name.length ≤ maxLen) {l : List Nm} {r : Nm} (hF : Fs (bsE (getE p.L name)) l r) :
    Calls Tryz.prog 16 #[.pointer (some ⟨d, 0, none⟩), .string (str name)] W fun e W' => e = .returned (.pointer (some ⟨W.heap.size + 1, 0, none⟩)) ∧ CAt ⟨knownOf l, [], []⟩ name d (W.heap.size + 1) W.heap.size (.slice none 0 0) (.slice none 0 0) W' ∧ Below W.heap.size W W' := by
  have hb0 : Below W.heap.size W ((W.alloc (.map #[] 0)).alloc (.cells (cellsC d W.heap.size name (.slice none 0 0) (.slice none 0 0)) 114)) := ((Below.refl _ _).alloc (Nat.le_refl _) _).alloc (by simp) _
  have HC := Lib.hid (And.intro (CAt.fresh (d := d) (name := name) (W := W)) hb0)
  have HA := Lib.hid ((h.below hb0).all hs hF)
  have hlen : l.length ≤ 1048576 := by
    have h1 := bs_le h.ok name
    have h3 := congrArg List.length hF.eq
    have h4 : ∀ l : List Nm, l.length ≤ (frs l).length := fun l => by
      induction l with
      | nil => simp
      | cons t l ih => simp only [frs, List.length_cons, List.length_append, fr_len]; omega
    have h5 := h4 l
    rw [List.length_append] at h3
    omega
  have hmm := @run_makeMap Tryz.prog
  clear h hs hF hb0
  unfold cellsC at HC HA
  go_enter Tryz.func16, Tryz.ntmps16
  go_wp2_with fail
  refine HA.out.mono ?_
  rintro e V1 ⟨v, rfl, hv, hb⟩
  obtain ⟨va, vc, rfl⟩ := hv.form
  have M1 : Nw W name d [] l (.slice va l.length vc) V1 := ⟨HC.out.1.below hb, HC.out.2.trans (hb.mono HC.out.2.size), by have := hv; rw [alloc_size, alloc_size] at this; exact this⟩
  have HM1 := Lib.hid M1
  clear M1 hv hb HC HA
  have HL := Lib.hid hlen
  clear hlen
  generalize hn : l.length = n at *
  have HN := Lib.hid hn
  clear hn
  go_wp2_with fail
  go_loopw [20] (fun i wr => ∃ k : Nat, i = .int .i64 k ∧ k ≤ n ∧ Nw W name d ((l.take k).foldl knowT []) l (.slice va n vc) wr) (fun i _ => n - (intOf i).toNat)
  case atStart => exact ⟨0, rfl, by omega, HM1.out⟩
  case round =>
    clear HM1
    obtain ⟨k, rfl, hk, M⟩ := hrel
    by_cases hlt : k < n
    · obtain ⟨s, hs⟩ : ∃ s, l[k]? = some s := ⟨l[k]'(by rw [HN.out]; exact hlt), List.getElem?_eq_getElem _⟩
      obtain ⟨nn, hnn⟩ : ∃ nn, n = nn + 1 := ⟨n - 1, by omega⟩
      obtain ⟨g, c, hsv, _, _, hc⟩ := M.row.ptr (n := nn) (by rw [HN.out]; exact hnn)
      obtain ⟨rfl, rfl⟩ : va = some ⟨g, 0, none⟩ ∧ vc = c := by injection hsv with q1 _ q3; exact ⟨q1, q3⟩
      have c0 := M.row.cell HN.out hs
      have hlti : (k : Int) < (n : Int) := by omega
      have hk0 : (0 : Int) ≤ (k : Int) := by omega
      have hw : IntKind.i64.wrap ((k : Int) + 1) = (k : Int) + 1 := IntWalk.i64_in _ (by have := HL.out; omega)
      have FC := Lib.hid (fun V => fact_c s V)
      have htk : (l.take (k + 1)).foldl knowT [] = knowT ((l.take k).foldl knowT []) s := by
        rw [List.take_add_one, hs]
        simp [List.foldl_append]
      have HT := Lib.hid (And.intro htk (And.intro hlt hk))
      have HM := Lib.hid M
      clear M hs hnn hsv hc htk hk hlt
      cases hf : factV s with
      | none =>
        have hkn : knowT ((l.take k).foldl knowT []) s = (l.take k).foldl knowT [] := by unfold knowT; rw [hf]
        have HK := Lib.hid hkn
        rw [hf] at FC
        clear hkn hf
        unfold factO at FC
        rw [zeroV, show askV AskP.zero = .agg (askCells AskP.zero) from rfl, zeroAsk] at FC
        go_wp2_with fail
        refine (FC.out _).mono ?_
        rintro e V2 ⟨rfl, hb⟩
        have M2 := HM.out.call hb
        have HM2 := Lib.hid M2
        clear FC c0 HM hb M2
        go_wp2_with fail
        -- ARMS
        obtain ⟨h1, h2, h3⟩ := HT.out
        exact ⟨⟨k + 1, by go_num, by omega, by rw [h1, HK.out]; exact (HM2.out.call ((Below.refl _ _).alloc (Nat.le_refl _) _)).call ((Below.refl _ _).alloc (Nat.le_refl _) _)⟩, by simp [intOf]; omega⟩
      | some pr =>
        obtain ⟨a, r9⟩ := pr
        have hfs := factV_some hf
        have hkn : knowT ((l.take k).foldl knowT []) s = putK ((l.take k).foldl knowT []) a r9 := by unfold knowT; rw [hf]
        have HK := Lib.hid (And.intro hkn hfs)
        rw [hf] at FC
        clear hkn hf hfs
        unfold factO at FC
        simp only at FC
        unfold askV replyV at FC
        generalize (l.take k).foldl knowT [] = K at *
        go_wp2_with fail
        refine (FC.out _).mono ?_
        rintro e V2 ⟨rfl, hb⟩
        have M2 := HM.out.call hb
        have B2 := ((Bl.start V2).alloc (aO a)).alloc (rO r9)
        rw [alloc_size] at B2
        have M4 := (M2.call ((Below.refl _ _).alloc (Nat.le_refl _) (.cells (askCells a) 117))).call ((Below.refl _ _).alloc (Nat.le_refl _) (.cells (replyCells r9) 119))
        clear FC c0 HM hb M2
        unfold aO rO askCells replyCells at B2
        unfold askCells replyCells at M4
        go_wp2_with fail
        obtain ⟨qa, hqa⟩ : ∃ qa, qa = V2.heap.size := ⟨_, rfl⟩
        rw [← hqa] at B2 ⊢
        clear hqa
        generalize World.alloc _ _ = V4 at B2 M4 ⊢
        have H0 : V4.drew.cell? ⟨W.heap.size + 1, 2, none⟩ = some (.map (some W.heap.size)) ∧ V4.drew.heap[qa]? = some (aO a) ∧ V4.drew.heap[qa + 1]? = some (rO r9) := ⟨M4.at'.reads.1.2.2.1, B2.at (q := qa) (o := aO a) (List.mem_cons_of_mem _ (List.mem_cons_self ..)), B2.at (q := qa + 1) (o := rO r9) (List.mem_cons_self ..)⟩
        replace M4 := M4.call (Below.refl _ V4).drew
        clear B2
        have HS := Lib.hid (fun (V : World) (hV : V.cell? ⟨W.heap.size + 1, 2, none⟩ = some (.map (some W.heap.size)) ∧ V.heap[qa]? = some (aO a) ∧ V.heap[qa + 1]? = some (rO r9)) => (show V.cell? ⟨W.heap.size + 1, 2, none⟩ = some (.map (some W.heap.size)) ∧ _ ∧ _ from ⟨hV.1, (cells7 hV.2.1).1, (cells11 hV.2.2).1⟩))
        refine Drawn.start (fun V => V.cell? ⟨W.heap.size + 1, 2, none⟩ = some (.map (some W.heap.size)) ∧ V.heap[qa]? = some (aO a) ∧ V.heap[qa + 1]? = some (rO r9)) (fun j => j == 6) (by kernel_rfl) ?_
        generalize World.drew _ = V5 at M4 H0 ⊢
        refine Drawn.take 0 (some 31) (v := ?_) rfl rfl (by kernel_rfl) (by kernel_rfl) (by kernel_rfl) (by kernel_rfl) (by kernel_rfl) rfl (fun _ _ _ h => h) (Or.inl ⟨rfl, ?_⟩) H0 ?_
        rotate_left
        · intro W hW; have hW := HS.out W hW; go_simp; try with_reducible rfl
        simp only [put_list, List.set]
        refine Drawn.take 1 (some 32) (v := ?_) rfl rfl (by kernel_rfl) (by kernel_rfl) (by kernel_rfl) (by kernel_rfl) (by kernel_rfl) rfl (fun _ _ _ h => h) (Or.inl ⟨rfl, ?_⟩) H0 ?_
        rotate_left
        · intro W hW; have hW := HS.out W hW; go_simp; try with_reducible rfl
        simp only [put_list, List.set]
        refine Drawn.take 2 (some 33) (v := ?_) rfl rfl (by kernel_rfl) (by kernel_rfl) (by kernel_rfl) (by kernel_rfl) (by kernel_rfl) rfl (fun _ _ _ h => h) (Or.inl ⟨rfl, ?_⟩) H0 ?_
        rotate_left
        · intro W hW; have hW := HS.out W hW; go_simp; try with_reducible rfl
        simp only [put_list, List.set]
        refine Drawn.take 3 (some 34) (v := ?_) rfl rfl (by kernel_rfl) (by kernel_rfl) (by kernel_rfl) (by kernel_rfl) (by kernel_rfl) rfl (fun _ _ _ h => h) (Or.inl ⟨rfl, ?_⟩) H0 ?_
        rotate_left
        · intro W hW; have hW := HS.out W hW; go_simp; try with_reducible rfl
        simp only [put_list, List.set]
        refine Drawn.take 4 (some 35) (v := ?_) rfl rfl (by kernel_rfl) (by kernel_rfl) (by kernel_rfl) (by kernel_rfl) (by kernel_rfl) rfl (fun _ _ _ h => h) (Or.inl ⟨rfl, ?_⟩) H0 ?_
        rotate_left
        · intro W hW; have hW := HS.out W hW; go_simp; try with_reducible rfl
        simp only [put_list, List.set]
        refine Drawn.take 5 (some 36) (v := ?_) rfl rfl (by kernel_rfl) (by kernel_rfl) (by kernel_rfl) (by kernel_rfl) (by kernel_rfl) rfl (fun _ _ _ h => h) (Or.inl ⟨rfl, ?_⟩) H0 ?_
        rotate_left
        · intro W hW; have hW := HS.out W hW; go_simp; try with_reducible rfl
        simp only [put_list, List.set]
        refine Drawn.only 6 (by kernel_rfl) rfl rfl (fun K' hK => ?_)
        obtain ⟨h1, h2, h3, h4, h5⟩ := HK.out
        obtain ⟨o, hrun, hmap⟩ := M4.at'.map.put M4.at'.ok h2 r9
        have M6 := M4.put (M4.at'.ok.put h2 h3 h4 h5) hmap
        have HM6 := Lib.hid M6
        clear h1 h2 h3 h4 h5 hmap M4 H0 HS M6
        unfold askV replyV at hrun
        go_simp
        refine hK _ _ (fun h => absurd h (by decide)) ?_
        clear hK K' hrun
        try simp only [put_list, put_none, List.set]
        refine Drawn.done (by kernel_rfl) ?_ _
        go_wp2_with fail
        obtain ⟨h1, h2, h3⟩ := HT.out
        exact ⟨⟨k + 1, by go_num, by omega, by rw [h1, HK.out.1]; exact HM6.out⟩, by simp [intOf]; omega⟩
    · obtain rfl : k = n := by omega
      have hlti : ¬ ((k : Nat) : Int) < (k : Int) := by omega
      have hall : l.take k = l := by rw [← HN.out]; exact List.take_length
      have HM := Lib.hid (show CAt ⟨knownOf l, [], []⟩ name d (W.heap.size + 1) W.heap.size (.slice none 0 0) (.slice none 0 0) wr ∧ Below W.heap.size W wr from by
        have := M.at'
        rw [hall] at this
        exact ⟨this, M.below⟩)
      clear M hall hk hlt
      go_wp2_with fail
      go_ret
      exact ⟨rfl, HM.out⟩
end
end Go.Proofs.YtekoaheiapddiaaGreat.Dz
end
section
namespace Go.Proofs.YtekoaheiapddiaaGreat.Dz
open Go.RowKit

structure ToldP where
  id : Nat
  nonce : Nat
  bal : Nat
  code : Nm
  v : Nat
  kind : Nat
  bad : Bool
  raw : Nm
structure ToldP.Ok (t : ToldP) : Prop where
  id : t.id < M64
  nonce : t.nonce < M64
  bal : t.bal < W256
  code : t.code.length ≤ 4000000000000000000
  v : t.v < W256
  kind : t.kind < 256
def toldCells (t : ToldP) : Array Value := #[.int .u64 t.id, .int .u64 t.nonce, .int .u64 (l3 t.bal : Nat), .int .u64 (l2 t.bal : Nat), .int .u64 (l1 t.bal : Nat), .int .u64 (l0 t.bal : Nat), .string (str t.code), .int .u64 (l3 t.v : Nat), .int .u64 (l2 t.v : Nat), .int .u64 (l1 t.v : Nat), .int .u64 (l0 t.v : Nat), .int .u8 t.kind, .bool t.bad, .string (str t.raw)]
/-- They lie in a slice. -/
def Tolds (W : World) (pa : Option Addr) (l : List ToldP) : Prop :=
  l = [] ∨ ∃ g o, pa = some ⟨g, o, none⟩ ∧ g < W.heap.size ∧ ∀ (i : Nat) (t : ToldP), l[i]? = some t → t.Ok ∧ ∀ j, j < 14 → W.cell? ⟨g, o + i * 14 + j, none⟩ = (toldCells t)[j]?
theorem Tolds.later {W W' : World} {pa : Option Addr} {l : List ToldP} (h : Tolds W pa l) (hb : Below W.heap.size W W') : Tolds W' pa l := by
  rcases h with h | ⟨g, o, e, hg, h⟩
  · exact Or.inl h
  · exact Or.inr ⟨g, o, e, Nat.lt_of_lt_of_le hg hb.size, fun i t ht => ⟨(h i t ht).1, fun j hj => (World.cell?_of_block (hb.block g hg)).trans ((h i t ht).2 j hj)⟩⟩
/-- The number that a reply bears. -/
def idP (i : Nat) (t : ToldP) : Nat := if t.bad = true then t.id else i + 1
def tell1 (i : Nat) (t : ToldP) : ReplyP := ⟨idP i t, t.nonce, t.bal, t.code.take (min t.code.length 60), 0⟩
def tell2 (i : Nat) (t : ToldP) : ReplyP := ⟨idP i t, 0, 0, [], t.v⟩
def tellP (i : Nat) (t : ToldP) : Nm := if 240 < t.kind then t.raw else if t.kind % 2 = 1 then (tell1 i t).enc 1 else (tell2 i t).enc 2
def scriptF : Nat → List ToldP → List Nm
  | _, [] => []
  | i, t :: r => tellP i t :: scriptF (i + 1) r
def scriptP (l : List ToldP) : List Nm := scriptF 0 (l.take 40)
theorem scriptF_len (i : Nat) (l : List ToldP) : (scriptF i l).length = l.length := by
  induction l generalizing i with
  | nil => rfl
  | cons t r ih => simp [scriptF, ih]
theorem scriptF_app (i : Nat) (l m : List ToldP) : scriptF i (l ++ m) = scriptF i l ++ scriptF (i + l.length) m := by
  induction l generalizing i with
  | nil => simp [scriptF]
  | cons t r ih =>
    simp only [List.cons_append, scriptF, ih, List.length_cons]
    rw [show i + 1 + r.length = i + (r.length + 1) by omega]
theorem script_step {l : List ToldP} {k : Nat} {t : ToldP} (h : l[k]? = some t) : scriptF 0 (l.take (k + 1)) = scriptF 0 (l.take k) ++ [tellP k t] := by
  have hk : k < l.length := (List.getElem?_eq_some_iff.1 h).1
  rw [List.take_add_one, h, scriptF_app, List.length_take, Nat.min_eq_left (Nat.le_of_lt hk), Nat.zero_add]
  rfl
theorem id_lt {i : Nat} {t : ToldP} (h : t.Ok) (hi : i < 40) : idP i t < M64 := by
  unfold idP
  split
  · exact h.id
  · unfold M64; omega
theorem tell1_ok {i : Nat} {t : ToldP} (h : t.Ok) (hi : i < 40) : (tell1 i t).Wf ∧ (tell1 i t).Ok 1 :=
  ⟨⟨id_lt h hi, h.nonce, h.bal, by show 0 < W256; decide⟩, by show (List.take _ _).length ≤ _; rw [List.length_take]; omega, Or.inl ⟨rfl, rfl⟩⟩
theorem tell2_ok {i : Nat} {t : ToldP} (h : t.Ok) (hi : i < 40) : (tell2 i t).Wf ∧ (tell2 i t).Ok 2 :=
  ⟨⟨id_lt h hi, by show 0 < M64; unfold M64; omega, by show 0 < W256; decide, h.v⟩, by show ([] : Nm).length ≤ _; simp, Or.inr ⟨rfl, rfl, rfl, rfl⟩⟩
/-- Amid the call: what was told, what is written. -/
structure Sc (W : World) (pa : Option Addr) (l : List ToldP) (s : List Nm) (v : Value) (V : World) : Prop where
  told : Tolds W pa l
  below : Below W.heap.size W V
  row : OwnS W.heap.size s v V
theorem Sc.call {W V V' : World} {pa : Option Addr} {l : List ToldP} {s : List Nm} {v : Value} (h : Sc W pa l s v V) (hb : Below V.heap.size V V') : Sc W pa l s v V' :=
  ⟨h.told, h.below.trans (hb.mono h.below.size), h.row.keep hb⟩
end Go.Proofs.YtekoaheiapddiaaGreat.Dz
end
section
namespace Go.Proofs.YtekoaheiapddiaaGreat.Dz
open Go.RowKit

theorem reply_len {kind : Int} {r : ReplyP} (h : r.Wf) (ho : r.Ok kind) : (r.enc kind).length ≤ r.code.length + 140 := by
  have h1 := encT_le3 (Go.Proofs.YtekoaheiapddiaaGreat.num r.id) (by have := num8 h.id; omega)
  have h2 := encT_le3 (Go.Proofs.YtekoaheiapddiaaGreat.num r.nonce) (by have := num8 h.nonce; omega)
  have h3 := encT_le3 (wordL r.bal) (by rw [wordL_len]; omega)
  have h4 := encT_le3 r.code (by have := ho.1; omega)
  have h5 := encT_le3 (wordL r.value) (by rw [wordL_len]; omega)
  have h6 := num8 h.id
  have h7 := num8 h.nonce
  have h8 := wordL_len r.bal
  have h9 := wordL_len r.value
  have ha := ho.1
  have hf : (r.fo kind).enc.length ≤ r.code.length + 120 := by
    unfold ReplyP.fo
    split <;> simp only [Fo.enc, List.length_append, List.length_nil] <;> omega
  have h2 := It.list_len (r.fo kind) (by omega)
  unfold ReplyP.enc ReplyP.body ReplyP.it
  rw [List.length_append, sum4_len]
  omega
theorem rec_len {a : AskP} {r : ReplyP} (ha : a.Key) (hw : r.Wf) (ho : r.Ok a.kind) : (recE a r).length ≤ r.code.length + 260 := by
  have h1 := AskP.enc_len ha.1 ha.2.1
  have h2 := reply_len hw ho
  have h0 := ho.1
  have h3 := encT_le3 a.enc (by omega)
  have h5 := encT_le3 (r.enc a.kind) (by omega)
  have hf : (recF a r).enc.length ≤ r.code.length + 250 := by
    simp only [recF, Fo.enc, List.length_append, List.length_nil]
    omega
  have h6 := It.list_len (recF a r) (by omega)
  unfold recE
  omega
/-- A reply that is right is told at once. -/
theorem tries_right {a : AskP} {c : Cl} {r : ReplyP} {s : List Nm} {n : Nat} (hs : c.script = r.enc a.kind :: s) (hw : r.Wf) (ho : r.Ok a.kind) (hi : r.id = c.asked.length + 1) :
    c.tries a (n + 1) = (some { r with id := 0 }, ⟨c.known, s, c.asked ++ [({ a with id := c.asked.length + 1 } : AskP).enc]⟩) := by
  simp only [Cl.tries, hs, List.headD_cons, getR_enc hw ho, List.tail_cons]
  rw [if_pos hi]
def nmC : Nm := [99]
theorem key_of {addr : List UInt8} (h : addr.length = 20) : (⟨0, addr, 0, 1⟩ : AskP).Key := ⟨⟨by show 0 < M64; unfold M64; omega, by show 0 < W256; decide, by show -9223372036854775808 ≤ (1 : Int) ∧ (1 : Int) ≤ 9223372036854775807; omega⟩, ⟨h, Or.inr ⟨rfl, rfl⟩⟩, rfl⟩
theorem key_slot {addr : List UInt8} (h : addr.length = 20) {n : Nat} (hn : n < W256) : (⟨0, addr, n, 2⟩ : AskP).Key := ⟨⟨by show 0 < M64; unfold M64; omega, hn, by show -9223372036854775808 ≤ (2 : Int) ∧ (2 : Int) ≤ 9223372036854775807; omega⟩, ⟨h, Or.inl rfl⟩, rfl⟩
theorem ok_new {room : Nat} (h : room ≤ 1048576) : (Pd.new room).Ok := ⟨trivial, Nat.zero_le _, h, ⟨by show _ ≤ (-1 : Int); omega, by show (-1 : Int) ≤ _; omega⟩, fun e he => by cases he⟩
/-- A disk, and a client on it, both new. -/
theorem Am.new {W W1 W2 : World} {p : Pd} {d : Nat} {F : Nat → Prop} {name : Nm} {l : List Nm} (h1 : On p d 0 F W1) (h2 : Chg (fun _ => False) F W W1) (h3 : CAt ⟨knownOf l, [], []⟩ name d (W1.heap.size + 1) W1.heap.size (.slice none 0 0) (.slice none 0 0) W2) (h4 : Below W1.heap.size W1 W2) :
    Am p ⟨knownOf l, [], []⟩ name d 0 F (W1.heap.size + 1) W1.heap.size (.slice none 0 0) (.slice none 0 0) W (fun _ => False) [] W2 := by
  refine ⟨⟨h1.below h4, h3, fun k hk hf => ?_⟩, ⟨h4.os.trans h2.os, h4.tape.trans h2.tape, h4.output.trans h2.output, Nat.le_trans h2.size h4.size, fun k hk hn => (h4.block k (Nat.lt_of_lt_of_le hk h2.size)).trans (h2.block k hk hn), fun k hk => ?_⟩, by simp⟩
  · have := h1.lt hk
    rcases hf with rfl | rfl | hf | hf
    · omega
    · omega
    · cases hf
    · cases hf
  · rcases hk with hk | rfl | rfl | hk | hk
    · exact h2.new k hk
    · have := h2.size; exact Or.inr (by omega)
    · exact Or.inr h2.size
    · cases hk
    · cases hk
theorem src_own {B : Nat} {l : List Nm} {a : Option Addr} {c : Nat} {W : World} (h : OwnS B l (.slice a l.length c) W) : Src (l.map encS) a W := by
  rcases h.2 with ⟨h1, h2⟩ | ⟨g, cap, cur, h1, _⟩
  · exact Or.inl (by rw [List.eq_nil_of_length_eq_zero h2]; rfl)
  · cases h1
    refine Or.inr ⟨_, rfl, fun j u hj => ?_⟩
    have e : (⟨g, 0, none⟩ : Addr).add j = ⟨g, j, none⟩ := by unfold Addr.add; split <;> simp_all
    rw [e]
    exact own_cell h rfl j u hj
end Go.Proofs.YtekoaheiapddiaaGreat.Dz
end
section
namespace Go.Proofs.YtekoaheiapddiaaGreat.Dz
open Go.RowKit
def addrP (n : Nat) : List UInt8 := if n % 5 = 0 then [97, 97, 97, 97, 97, 97, 97, 97, 97, 97, 97, 97, 97, 97, 97, 97, 97, 97, 97, 97] else if n % 5 = 1 then [98, 98, 98, 98, 98, 98, 98, 98, 98, 98, 98, 98, 98, 98, 98, 98, 98, 98, 98, 98] else if n % 5 = 2 then [99, 99, 99, 99, 99, 99, 99, 99, 99, 99, 99, 99, 99, 99, 99, 99, 99, 99, 99, 99] else if n % 5 = 3 then [115, 104, 111, 114, 116] else [100, 100, 100, 100, 100, 100, 100, 100, 100, 100, 100, 100, 100, 100, 100, 100, 100, 100, 100, 100]
end Go.Proofs.YtekoaheiapddiaaGreat.Dz
end
section
namespace Go.Proofs.YtekoaheiapddiaaGreat.Dz
open Go.RowKit
theorem Am.new2 {W V W1 W2 : World} {p : Pd} {d : Nat} {F : Nat → Prop} {name : Nm} {l : List Nm} {L : List (Nat × Obj)} (hB : Below W.heap.size W V) (h1 : On p d 0 F W1) (h2 : Chg (fun _ => False) F V W1) (h3 : CAt ⟨knownOf l, [], []⟩ name d (W1.heap.size + 1) W1.heap.size (.slice none 0 0) (.slice none 0 0) W2) (h4 : Below W1.heap.size W1 W2)
    (hL : ∀ x ∈ L, V.heap[x.1]? = some x.2 ∧ W.heap.size ≤ x.1) : Am p ⟨knownOf l, [], []⟩ name d 0 F (W1.heap.size + 1) W1.heap.size (.slice none 0 0) (.slice none 0 0) W (fun _ => False) L W2 := by
  have hc : Chg (fun _ => False) F W W1 := by
    refine ⟨h2.os.trans hB.os, h2.tape.trans hB.tape, h2.output.trans hB.output, Nat.le_trans hB.size h2.size, fun k hk hn => (h2.block k (Nat.lt_of_lt_of_le hk hB.size) hn).trans (hB.block k hk), fun k hk => ?_⟩
    rcases h2.new k hk with h | h
    · exact Or.inl h
    · have := hB.size; exact Or.inr (by omega)
  have h0 := Am.new (name := name) (l := l) h1 hc h3 h4
  refine ⟨h0.bo, h0.chg, fun x hx => ?_⟩
  obtain ⟨e1, e2⟩ := hL x hx
  have hlt := lt_of e1
  have hs := h2.size
  refine ⟨(h4.block _ (by omega)).trans ((h2.block _ hlt (fun h => h)).trans e1), e2, fun hf => ?_⟩
  rcases hf with hf | hf | hf | hf | hf
  · rcases h2.new _ hf with h | h
    · exact h
    · omega
  · omega
  · omega
  · cases hf
  · cases hf
set_option maxRecDepth 100000 in
theorem eq_acc (r : ReplyP) (w : World) : (binOp .eql 82 (.agg (accC r)) (.agg (accC r))).run Tryz.prog w = .ok (.bool true) w := by
  have u3 := Tryz.underlying41
  have a3' := Tryz.isAgg41
  have z3 := Tryz.sizeOf41
  have u9 := Tryz.underlying9
  have a9 := Tryz.isAgg9
  have z9 := Tryz.sizeOf9
  have uW := Tryz.underlying61
  have aW := Tryz.isAgg61
  have zW := Tryz.sizeOf61
  have hS : Tryz.prog.underlying 82 = some (.struct (Tryz.prog.fieldsOf 82)) := by kernel_rfl
  have hp : Tryz.prog.stoodInHeld 82 = false := by kernel_rfl
  have hSA : Tryz.prog.underlying 82 = some (.struct (Tryz.prog.fieldsOf 82)) := by kernel_rfl
  have hpA : Tryz.prog.stoodInHeld 82 = false := by kernel_rfl
  have hSW : Tryz.prog.underlying 61 = some (.struct (Tryz.prog.fieldsOf 61)) := by kernel_rfl
  have hpW : Tryz.prog.stoodInHeld 61 = false := by kernel_rfl
  unfold accC
  rw [run_eql_struct, show (10000 : Nat) = 9999 + 1 from rfl, run_equalIn_agg w 9999 82 _ _ hS hp]
  simp only [Program.fieldsOf, Tryz.underlying82]
  go_simp
end Go.Proofs.YtekoaheiapddiaaGreat.Dz
end
section
namespace Go.Proofs.YtekoaheiapddiaaGreat.Dz
open Go.RowKit
theorem Hl.add_ok {p : Pd} (h : Hl p) (hp : p.Ok) {name xs : Nm} (hs : xs.length ≤ 65536) (hu : usedE p.L + xs.length + 8 ≤ p.room) : (p.add name xs).2.Ok := by
  have hfl : usedE p.L + (fr xs).length ≤ p.room := by rw [fr_len]; omega
  have ha := h.append (s := name) hfl
  have hg : getE (p.app name (fr xs)).L name = some ⟨name, bsE (getE p.L name) ++ fr xs, synE (getE p.L name)⟩ := by
    show getE (putE _ _) _ = _
    rw [getE_put, if_pos rfl]
  have hH : Hl (p.app name (fr xs)) := h.with _
  have hb := hH.change hg fun e => putE (p.app name (fr xs)).L ⟨name, e.bs, e.bs.length⟩
  have ho := ((hp.app (s := name) hfl).putS hg (bsE (getE p.L name) ++ fr xs).length (Nat.le_refl _)).2
  rw [hH.tick] at ho
  unfold Pd.add
  rw [if_pos hs]
  simp only [runP, ha, if_pos]
  rw [show (p.app name (fr xs)).sync name = _ from hb]
  simp only [if_pos]
  exact ho
def aX : AskP := ⟨0, addrP 0, 0, 1⟩
end Go.Proofs.YtekoaheiapddiaaGreat.Dz
end
section
namespace Go.Proofs.YtekoaheiapddiaaGreat.Dz
open Go.RowKit
def wrongP : Nm := [119, 114, 111, 110, 103]
theorem getR_wrong (kind : Int) : getR kind wrongP = none := (getR_is kind wrongP).one fun r _ _ e => by
  have := congrArg List.length e
  have h5 : wrongP.length = 5 := rfl
  have h1 := hd_pos 192 (r.fo kind).enc.length
  have h2 := encT_pos (Go.Proofs.YtekoaheiapddiaaGreat.num r.id)
  have h3 : (r.fo kind).enc.length = (encT (Go.Proofs.YtekoaheiapddiaaGreat.num r.id)).length + (if kind = 1 then Fo.text (Go.Proofs.YtekoaheiapddiaaGreat.num r.nonce) (.text (wordL r.bal) (.text r.code .nil)) else .text (wordL r.value) .nil).enc.length := by
    unfold ReplyP.fo
    simp only [Fo.enc, List.length_append]
  simp only [ReplyP.enc, List.length_append, sum4_len, ReplyP.body, ReplyP.it, It.enc] at this
  omega
/-- Replies that are wrong are asked for again. -/
theorem tries_wrong (a : AskP) (n : Nat) (t : List Nm) : ∀ (j : Nat) (c : Cl), c.script = List.replicate j wrongP ++ t → ∃ q : List Nm, q.length = c.asked.length + j ∧ c.tries a (j + n) = Cl.tries a n ⟨c.known, t, q⟩ := by
  intro j
  induction j with
  | zero => exact fun c h => ⟨c.asked, rfl, by obtain ⟨k, s, q⟩ := c; simp only [List.replicate_zero, List.nil_append] at h; subst h; rw [Nat.zero_add]⟩
  | succ j ih =>
    intro c h
    obtain ⟨q, h1, h2⟩ := ih ⟨c.known, List.replicate j wrongP ++ t, c.asked ++ [({ a with id := c.asked.length + 1 } : AskP).enc]⟩ rfl
    refine ⟨q, by rw [h1]; simp; omega, ?_⟩
    rw [show j + 1 + n = (j + n) + 1 by omega]
    simp only [Cl.tries, h, List.replicate_succ, List.cons_append, List.headD_cons, getR_wrong, List.tail_cons]
    exact h2
theorem step_fit {name : Nm} {p : Pd} {c : Cl} {a : AskP} {r : ReplyP} {s : List Nm} {j : Nat} (hl : Hl p) (hp : p.Ok) (hw : r.Wf) (ho : r.Ok a.kind) (hs : c.script = List.replicate j wrongP ++ r.enc a.kind :: s) (hj : j ≤ 2) (hi : r.id = c.asked.length + j + 1)
    (ha : a.Key) (hn : a.addr.length = 20) (hk : getK c.known a = none) (hu : usedE p.L + r.code.length + 268 ≤ p.room) :
    ∃ (q : List Nm) (p1 : Pd), q.length = c.asked.length + j + 1 ∧ askP name p c a = (({ r with id := 0 }, 0), p1, ⟨c.known ++ [(a, { r with id := 0 })], s, q⟩) ∧ Hl p1 ∧ p1.Ok ∧ p1.room = p.room ∧ usedE p1.L ≤ usedE p.L + r.code.length + 268 ∧
      bsE (getE p1.L name) = bsE (getE p.L name) ++ fr (recE a { r with id := 0 }) ∧ (recE a { r with id := 0 }).length ≤ 65536 := by
  have hw0 : ({ r with id := 0 } : ReplyP).Wf := ⟨by show 0 < M64; unfold M64; omega, hw.2, hw.3, hw.4⟩
  have ho0 : ({ r with id := 0 } : ReplyP).Ok a.kind := ho
  obtain ⟨q, h1, h2⟩ := tries_wrong a (2 - j + 1) (r.enc a.kind :: s) j c hs
  have h3 := tries_right (a := a) (c := ⟨c.known, r.enc a.kind :: s, q⟩) (n := 2 - j) rfl hw ho (by rw [h1]; exact hi)
  rw [show j + (2 - j + 1) = 3 by omega, h3] at h2
  have hlen := rec_len ha hw0 ho0
  have hc0 : ({ r with id := 0 } : ReplyP).code.length = r.code.length := rfl
  have hc1 : r.code.length ≤ 24576 := ho.1
  obtain ⟨p1, q1, q2, q3, q4, q5, _⟩ := hl.add (name := name) (xs := recE a { r with id := 0 }) hp (by omega) (by omega)
  have q6 := hl.add_ok hp (name := name) (xs := recE a { r with id := 0 }) (by omega) (by omega)
  rw [q1] at q6
  refine ⟨q ++ [({ a with id := q.length + 1 } : AskP).enc], p1, by simp; omega, ?_, q2, q6, q3, by omega, by rw [q5]; rfl, by omega⟩
  rw [askP_new hn hk, learnP_ok h2 (by rw [q1]), q1, putK_new hk]
/-- What ForkOnce asks and is told. -/
def rC (id nonce bal : Nat) (code : Nm) : ReplyP := ⟨id, nonce, bal, code, 0⟩
def rV (id v : Nat) : ReplyP := ⟨id, 0, 0, [], v⟩
def aK (k : Nat) : AskP := ⟨0, addrP 0, k, 2⟩
theorem rC_wf {id nonce bal : Nat} (code : Nm) (h1 : id < M64) (h2 : nonce < M64) (h3 : bal < W256) : (rC id nonce bal code).Wf := ⟨h1, h2, h3, by show 0 < W256; decide⟩
theorem rC_ok (id nonce bal : Nat) {code : Nm} (h : code.length ≤ 60) : (rC id nonce bal code).Ok 1 := ⟨by show code.length ≤ _; omega, Or.inl ⟨rfl, rfl⟩⟩
theorem rV_wf {id v : Nat} (h1 : id < M64) (h2 : v < W256) : (rV id v).Wf := ⟨h1, by show 0 < M64; unfold M64; omega, by show 0 < W256; decide, h2⟩
theorem rV_ok (id v : Nat) : (rV id v).Ok 2 := ⟨by show ([] : Nm).length ≤ _; simp, Or.inr ⟨rfl, rfl, rfl, rfl⟩⟩
def scriptO (n : Nat) (s t : Nm) : List Nm := List.replicate n wrongP ++ [s, t]
theorem once_near {n nonce bal k v : Nat} {code : Nm} (hn : n ≤ 2) (h2 : nonce < M64) (h3 : bal < W256) (hc : code.length ≤ 60) (hk : k < W256) (hv : v < W256) :
    ∃ (p1 p2 : Pd) (s1 q1 q2 : List Nm), askP nmC (Pd.new 100000) ⟨[], scriptO n ((rC (n + 1) nonce bal code).enc 1) ((rV (n + 2) v).enc 2), []⟩ aX = ((rC 0 nonce bal code, 0), p1, ⟨[(aX, rC 0 nonce bal code)], s1, q1⟩) ∧ q1.length ≤ 3 ∧
      askP nmC p1 ⟨[(aX, rC 0 nonce bal code)], s1, q1⟩ (aK k) = ((rV 0 v, 0), p2, ⟨[(aX, rC 0 nonce bal code), (aK k, rV 0 v)], [], q2⟩) ∧ q2.length = n + 2 ∧
      askP nmC p2 ⟨[(aX, rC 0 nonce bal code), (aK k, rV 0 v)], [], q2⟩ aX = ((rC 0 nonce bal code, 0), p2, ⟨[(aX, rC 0 nonce bal code), (aK k, rV 0 v)], [], q2⟩) ∧
      (∃ l, Fs (bsE (getE p2.L nmC)) l [] ∧ knownOf l = [(aX, rC 0 nonce bal code), (aK k, rV 0 v)]) ∧
      ∀ q : List Nm, askP nmC p2 ⟨[(aX, rC 0 nonce bal code), (aK k, rV 0 v)], [], q⟩ aX = ((rC 0 nonce bal code, 0), p2, ⟨[(aX, rC 0 nonce bal code), (aK k, rV 0 v)], [], q⟩) ∧
        askP nmC p2 ⟨[(aX, rC 0 nonce bal code), (aK k, rV 0 v)], [], q⟩ (aK k) = ((rV 0 v, 0), p2, ⟨[(aX, rC 0 nonce bal code), (aK k, rV 0 v)], [], q⟩) := by
  have hxy : aX ≠ aK k := by simp [aX, aK]
  have m1 : n + 1 < M64 := by unfold M64; omega
  have m2 : n + 2 < M64 := by unfold M64; omega
  have kX : aX.Key := key_of rfl
  have kK : (aK k).Key := key_slot rfl hk
  obtain ⟨q1, p1, a1, b1, c1, d1, e1, f1, g1, l1⟩ := step_fit (name := nmC) (c := ⟨[], scriptO n ((rC (n + 1) nonce bal code).enc 1) ((rV (n + 2) v).enc 2), []⟩) (a := aX) (r := rC (n + 1) nonce bal code) (Hl.new 100000) (ok_new (by omega)) (rC_wf code m1 h2 h3) (rC_ok _ _ _ hc) rfl hn (by show n + 1 = 0 + n + 1; omega) kX rfl rfl
    (by show 0 + code.length + 268 ≤ 100000; omega)
  have hc0 : (rC (n + 1) nonce bal code).code.length = code.length := rfl
  have hv0 : (rV (n + 2) v).code.length = 0 := rfl
  have hr0 : (Pd.new 100000).room = 100000 := rfl
  have hu0 : usedE (Pd.new 100000).L = 0 := rfl
  have a1' : q1.length = n + 1 := by rw [a1]; show 0 + n + 1 = n + 1; omega
  obtain ⟨q2, p2, a2, b2, c2, d2, e2, f2, g2, l2⟩ := step_fit (name := nmC) (c := ⟨[(aX, rC 0 nonce bal code)], [(rV (n + 2) v).enc 2], q1⟩) (a := aK k) (r := rV (n + 2) v) (s := []) (j := 0) c1 d1 (rV_wf m2 hv) (rV_ok _ _) rfl (by omega) (by show n + 2 = q1.length + 0 + 1; omega) kK rfl (by simp only [getK]; rw [if_neg hxy]) (by omega)
  have gX : getK [(aX, rC 0 nonce bal code), (aK k, rV 0 v)] aX = some (rC 0 nonce bal code) := by simp [getK]
  have gK : getK [(aX, rC 0 nonce bal code), (aK k, rV 0 v)] (aK k) = some (rV 0 v) := by simp only [getK]; rw [if_neg hxy]; simp
  have w0 : (rC 0 nonce bal code).Wf := rC_wf code (by unfold M64; omega) h2 h3
  have w1 : (rV 0 v).Wf := rV_wf (by unfold M64; omega) hv
  refine ⟨p1, p2, _, q1, q2, b1, by omega, b2, by rw [a2]; show q1.length + 0 + 1 = n + 2; omega, askP_known rfl gX, ⟨[recE aX (rC 0 nonce bal code), recE (aK k) (rV 0 v)], ?_, ?_⟩, fun q => ⟨askP_known rfl gX, askP_known rfl gK⟩⟩
  · have r1 : ({ rC (n + 1) nonce bal code with id := 0 } : ReplyP) = rC 0 nonce bal code := rfl
    have r2 : ({ rV (n + 2) v with id := 0 } : ReplyP) = rV 0 v := rfl
    rw [r1] at g1 l1
    rw [r2] at g2 l2
    rw [g1, show bsE (getE (Pd.new 100000).L nmC) = [] from rfl, List.nil_append] at g2
    rw [g2]
    have := Fs.own (l := [recE aX (rC 0 nonce bal code), recE (aK k) (rV 0 v)]) (by
      intro t ht
      simp only [List.mem_cons, List.not_mem_nil, or_false] at ht
      rcases ht with rfl | rfl
      · exact l1
      · exact l2)
    simp only [frs, List.append_nil] at this
    exact this
  · have s1 : knowT [] (recE aX (rC 0 nonce bal code)) = [(aX, rC 0 nonce bal code)] := by
      unfold knowT
      rw [factV_rec kX w0 (rC_ok _ _ _ hc) rfl]
      exact putK_new rfl _
    have s2 : knowT [(aX, rC 0 nonce bal code)] (recE (aK k) (rV 0 v)) = [(aX, rC 0 nonce bal code), (aK k, rV 0 v)] := by
      unfold knowT
      rw [factV_rec kK w1 (rV_ok _ _) rfl]
      exact putK_new (by simp only [getK]; rw [if_neg hxy]) _
    unfold knownOf
    rw [List.foldl_cons, List.foldl_cons, List.foldl_nil, s1, s2]
end Go.Proofs.YtekoaheiapddiaaGreat.Dz
end
