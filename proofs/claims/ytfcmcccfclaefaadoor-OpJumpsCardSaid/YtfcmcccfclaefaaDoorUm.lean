/- Code: the code of a name. -/
import Derived.Test.YtfcmcccfclaefaaDoorUf
import Derived.Deep.CutRange
namespace Go.Proofs.YtfcmcccfclaefaaDoor
open Go.RowKit Go.Maps Go.Shelf Mp

theorem bytes_eq {a b : ByteArray} (h : a.toList = b.toList) : a = b := by
  rw [ByteArray.toList_eq, ByteArray.toList_eq] at h
  apply ByteArray.ext
  exact Array.toList_inj.1 h
theorem bytes_ne {a b : ByteArray} (h : ¬ a = b) : (a.toList == b.toList) = false := by
  have : ¬ a.toList = b.toList := fun e => h (bytes_eq e)
  simpa using this
def hasNm (s : ByteArray) (c : Nat) : Bool := match infoOf c with | some v => decide (str v.nm = s) | none => false
/-- The code of a name. -/
def codeOf (s : ByteArray) : Option Nat := (List.range 256).find? (hasNm s)
def nmsAll : List Nm := (List.range 256).filterMap fun c => (infoOf c).map (·.nm)
set_option maxRecDepth 100000 in
theorem nms_apart : (List.range 256).all (fun c => match infoOf c with | none => true | some v => decide ((List.range 256).find? (fun d => match infoOf d with | none => false | some u => u.nm == v.nm) = some c)) = true := by decide +kernel
theorem hasNm_some {s : ByteArray} {c : Nat} {v : Inf} (h : infoOf c = some v) : hasNm s c = decide (str v.nm = s) := by unfold hasNm; rw [h]
theorem code_of_hit {s : ByteArray} {c : Nat} {v : Inf} (hc : c < 256) (h : infoOf c = some v) (hs : str v.nm = s) : codeOf s = some c := by
  have h1 := List.all_eq_true.1 nms_apart c (List.mem_range.2 hc)
  rw [h] at h1
  have h2 := of_decide_eq_true h1
  rw [← h2]
  unfold codeOf
  congr 1
  funext d
  unfold hasNm
  cases hd : infoOf d with
  | none => rfl
  | some u =>
    simp only
    rw [← hs]
    by_cases e : u.nm = v.nm
    · simp [e]
    · have : ¬ str u.nm = str v.nm := fun h => e (str_inj h)
      simp [e, this]
theorem code_none {s : ByteArray} (h : ∀ c v, c < 256 → infoOf c = some v → ¬ str v.nm = s) : codeOf s = none := by
  unfold codeOf
  rw [List.find?_eq_none]
  intro c hc
  have hc := List.mem_range.1 hc
  cases hi : infoOf c with
  | none => unfold hasNm; rw [hi]; simp
  | some v => rw [hasNm_some hi]; simpa using h c v hc hi
theorem chg_box {W V V' : World} {q : Nat} (h : Below W.heap.size W V) (hc : Chg (fun k => k = q) (fun k => k = q) V V') (hq : W.heap.size ≤ q) : Below W.heap.size W V' :=
  ⟨hc.os.trans h.os, hc.tape.trans h.tape, hc.output.trans h.output, Nat.le_trans h.size hc.size, fun k hk => (hc.block k (Nat.lt_of_lt_of_le hk h.size) (by omega)).trans (h.block k hk)⟩
def CodeR (s : ByteArray) (W : World) (e : Ending) (W' : World) : Prop := e = .returned (.tuple #[.int .u8 ((codeOf s).getD 0 : Nat), .bool (codeOf s).isSome]) ∧ Below W.heap.size W W'
/-- Under way: what came up does not bear that name. -/
structure Cw (s : ByteArray) (W : World) (m r : Nat) (todo : Nat → Bool) (cnt : Nat) (U : World) : Prop where
  rg : MapRg kitB m r 256 infoOf todo cnt U
  below : Below W.heap.size W U
  new : W.heap.size ≤ r
  seen : ∀ c v, infoOf c = some v → todo c = false → ¬ str v.nm = s
set_option maxRecDepth 100000 in
set_option maxHeartbeats 4000000 in
theorem code_c (s : ByteArray) (W : World) : Calls Tryd.prog 11 #[.string s] W (CodeR s W) := by
  have CA := Lib.hid (all_c W)
  go_enter Tryd.func11, Tryd.ntmps11
  go_upto_region 2 with (first | (go_at_call 21; refine CA.out.mono ?_; rintro e V ⟨m, rfl, hm⟩; have HM := Lib.hid hm; clear hm CA) | (refine wpList_range_fn _ (by rfl) _ (by rfl) (by rfl) HM.out.map ?_; intro V1 cnt h1 h2 h3 h4; have H1 := Lib.hid (And.intro h1 (And.intro h2 (And.intro h3 h4))); clear h1 h2 h3 h4))
  have HL : Cw s W m V.heap.size (fun k => (infoOf k).isSome) cnt V1 :=
    ⟨H1.out.1, HM.out.below.trans ((chg_grown (F := fun _ => False) H1.out.2.1 (fun k hk => by cases hk)).below.mono HM.out.below.size), HM.out.below.size, fun c v h1 h2 => by rw [h1] at h2; cases h2⟩
  have HL2 := Lib.hid HL
  clear HL H1 HM
  generalize V.heap.size = r at HL2 ⊢
  go_frame
  go_loopw [] (fun wr => ∃ todo cnt, Cw s W m r todo cnt wr) (fun wr => wr.rangeLeft m r)
  case atStart => exact ⟨_, _, HL2.out⟩
  case round =>
    obtain ⟨todo, cnt, hi⟩ := hrel
    have HI := Lib.hid hi
    clear hi HL2
    go_wp2_with (refine wpList_next_tab _ (by rfl) _ (by rfl) (by rfl) HI.out.rg ?_ ?_)
    · intro hc0 hl0
      have e := code_none (s := s) (fun c v hc h => HI.out.seen c v h (hl0 c hc))
      have HZ := Lib.hid e
      clear hc0 hl0 e
      go_wp2_with fail
      go_ret2
      refine ⟨?_, HI.out.below⟩
      rw [HZ.out]
      rfl
    · intro k v W3 cnt3 hk ht hv hrg hlt hg3 hsz hen
      have hb3 : Below W3.heap.size W3 (W3.alloc (.cells #[.string (str v.nm), .int .u64 v.gas, .int .i64 v.inn, .int .i64 v.out] 25)) := (Below.refl _ _).alloc (Nat.le_refl _) _
      have hr3 : r < W3.heap.size := hrg.lt
      have hm3 : m < W3.heap.size := (MapRg.fn ⟨_, hrg⟩).lt
      have hB : Below W.heap.size W W3 := chg_box HI.out.below (chg_grown (F := fun k => k = r) hg3 (fun k hk => by injection hk with hk; exact hk.symm)) HI.out.new
      have HC : ¬ str v.nm = s → Cw s W m r (fun j => todo j && !decide (j = k)) cnt3 (W3.alloc (.cells #[.string (str v.nm), .int .u64 v.gas, .int .i64 v.inn, .int .i64 v.out] 25)) := fun hn =>
        ⟨hrg.keep (hb3.block m hm3) (hb3.block r hr3), hB.trans (hb3.mono hB.size), HI.out.new, fun c u h1 h2 => by
          by_cases e : c = k
          · rw [e, hv] at h1; cases h1; exact hn
          · exact HI.out.seen c u h1 (by simpa [e] using h2)⟩
      have HH : str v.nm = s → codeOf s = some k := fun hn => code_of_hit hk hv hn
      have HD := Lib.hid (And.intro HC (And.intro HH (And.intro (hB.trans (hb3.mono hB.size)) hlt)))
      have k0 : (W3.alloc (.cells #[.string (str v.nm), .int .u64 v.gas, .int .i64 v.inn, .int .i64 v.out] 25)).cell? ⟨W3.heap.size, 0, none⟩ = some (.string (str v.nm)) := cell_of (heap_alloc_new W3 (.cells #[.string (str v.nm), .int .u64 v.gas, .int .i64 v.inn, .int .i64 v.out] 25 (0, 0))) 0
      unfold infC at hen ⊢
      clear hk ht hv hrg hlt hg3 hsz hb3 hr3 hm3 hB HC HH
      generalize str v.nm = nn at *
      generalize v.gas = g at *
      generalize v.inn = i at *
      generalize v.out = u at *
      by_cases he : nn = s
      · have hz := HD.out.2.1 he
        have HZ := Lib.hid (And.intro hz HD.out.2.2.1)
        clear hz HD HI
        subst he
        go_wp2_with fail
        go_ret2
        refine ⟨?_, HZ.out.2⟩
        rw [HZ.out.1]
        rfl
      · have hz := HD.out.1 he
        have HZ := Lib.hid (And.intro hz HD.out.2.2.2)
        have he2 := bytes_ne he
        clear hz HD
        go_wp2_with fail
        go_roundw
        case rel => exact ⟨_, _, HZ.out.1⟩
        case measure => rw [MapRg.left_eq HZ.out.1.rg, MapRg.left_eq HI.out.rg]; exact HZ.out.2
end Go.Proofs.YtfcmcccfclaefaaDoor
