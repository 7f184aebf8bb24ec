/- RecordReplaces: what is there behind the crash. -/
import Derived.Test.YtoiooohdenfpmaaQu
namespace Go.Proofs.Ytoiooohdenfpmaa
open Go.RowKit

def nF : Nm := [102]
def nL : Nm := [108, 111, 103]
theorem lost_whole (keep : Int) (nm b : Nm) : lostE keep ⟨nm, b, b.length⟩ = ⟨nm, b, b.length⟩ := by
  unfold lostE
  have : keptE keep ⟨nm, b, b.length⟩ = b.length := by unfold keptE tornN; simp
  simp only [this, List.take_length]
/-- Behind the crash: the file, the log's mending, what it tells. -/
def Behind (s t u : Nm) (ra rb : Int) (x : Pd) : Prop := ∃ l r q v, Fs (bsE (getE x.L nL)) l r ∧ x.mendW nL (frs l) = (0, q) ∧ bsE (getE q.L nL) = frs l ∧ bsE (getE q.L nF) = fr v ∧ (l = [s] ∨ l = [s, u]) ∧ (v = s ∨ v = t) ∧ (ra = 0 → v = t) ∧ (rb = 0 → l = [s, u])
theorem behind_pure {s t u : Nm} (hs : s.length ≤ 100) (hu : u.length ≤ 100) {q : Pd} (h : Rm q 432) (keep : Int) {ra rb : Int} {v : Nm} (hF : getE q.L nF = some ⟨nF, fr v, (fr v).length⟩)
    (hv : v = s ∨ v = t) (hra : ra = 0 → v = t) {k syn : Nat} (hL : getE q.L nL = some ⟨nL, fr s ++ (fr u).take k, syn⟩) (hsyn : (fr s).length ≤ syn) (hrb : rb = 0 → k = (fr u).length ∧ syn = (fr s).length + (fr u).length) : Behind s t u ra rb (q.lost keep) := by
  have hls := fr_len s
  have hlu := fr_len u
  have hle := h.ok.syn _ (getE_mem hL).1
  simp only [List.length_append, List.length_take] at hle
  have hgF : getE (q.lost keep).L nF = some ⟨nF, fr v, (fr v).length⟩ := by
    show getE (q.L.map _) nF = _
    rw [getE_lost, hF]
    exact congrArg some (lost_whole keep nF (fr v))
  obtain ⟨j, hj, hjr⟩ : ∃ j, bsE (getE (q.lost keep).L nL) = fr s ++ (fr u).take j ∧ (rb = 0 → j = (fr u).length) := by
    refine ⟨min (keptE keep ⟨nL, fr s ++ (fr u).take k, syn⟩ - (fr s).length) k, ?_, fun hr => ?_⟩
    · have e1 : bsE (getE (q.lost keep).L nL) = (fr s ++ (fr u).take k).take (keptE keep ⟨nL, fr s ++ (fr u).take k, syn⟩) := by
        show bsE (getE (q.L.map _) nL) = _
        rw [getE_lost, hL]
        rfl
      have hge : (fr s).length ≤ keptE keep ⟨nL, fr s ++ (fr u).take k, syn⟩ := by unfold keptE; simp only; omega
      rw [e1, List.take_append, List.take_of_length_le hge, List.take_take]
    · obtain ⟨h1, h2⟩ := hrb hr
      have : keptE keep ⟨nL, fr s ++ (fr u).take k, syn⟩ = (fr s).length + (fr u).length := by
        unfold keptE tornN
        simp only [List.length_append, List.length_take]
        omega
      rw [this]; omega
  have hokl := h.ok.lost keep
  have hul : usedE (q.lost keep).L ≤ 432 := Nat.le_trans (used_lost h.ok.syn) h.used
  have hrl : (q.lost keep).room = 10000 := h.room
  have hH : Hl (q.lost keep) := ⟨rfl, rfl⟩
  obtain ⟨l, r, hl, hFs, hr2⟩ : ∃ l r, (l = [s] ∨ l = [s, u]) ∧ Fs (fr s ++ (fr u).take j) l r ∧ (j = (fr u).length → l = [s, u]) := by
    by_cases hjf : (fr u).length ≤ j
    · refine ⟨[s, u], [], Or.inr rfl, ?_, fun _ => rfl⟩
      rw [List.take_of_length_le hjf]
      refine ⟨by simp [frs], fun x hx => ?_, firstP_nil⟩
      rcases List.mem_cons.1 hx with rfl | hx
      · omega
      · rw [List.mem_singleton.1 hx]; omega
    · refine ⟨[s], (fr u).take j, Or.inl rfl, ⟨by simp [frs], fun x hx => by rw [List.mem_singleton.1 hx]; omega, firstP_cut (by omega) (by omega)⟩, fun h => by omega⟩
  have hfl : (frs l).length ≤ 216 := by
    rcases hl with rfl | rfl
    · simp only [frs, List.length_append, List.length_nil]; omega
    · simp only [frs, List.length_append, List.length_nil]; omega
  rw [← hj] at hFs
  obtain ⟨q7, k1, k2, k3, k4, k5, k6⟩ := hH.mend (name := nL) hokl hFs (by omega)
  refine ⟨l, r, q7, v, hFs, k1, k5, ?_, hl, hv, hra, fun h => hr2 (hjr h)⟩
  rw [k6 nF (by decide) (by decide), hgF]
  rfl
theorem replaces_pure {s t u : Nm} (hs : s.length ≤ 100) (ht : t.length ≤ 100) (hu : u.length ≤ 100) (a : Nat) (torn : Int) (hp : (Pd.new 10000).Ok) :
    ∃ q1, (Pd.new 10000).replace nF s = (0, q1) ∧ (q1.Ok → ∃ q2, q1.add nL s = (0, q2) ∧ (({ q2 with after := (a : Int), torn := torn } : Pd).Ok → ∃ ra q4 rb q5, ({ q2 with after := (a : Int), torn := torn } : Pd).replace nF t = (ra, q4) ∧ q4.add nL u = (rb, q5) ∧ q5.room = 10000 ∧ ∀ keep, Behind s t u ra rb (q5.lost keep))) := by
  have hls := fr_len s
  have hu0 : usedE (Pd.new 10000).L = 0 := rfl
  obtain ⟨q1, k1, k2, k3, k4, k5, k6, k7⟩ := (Hl.new 10000).exchange (name := nF) (s := fr s) hp (by show 0 + _ ≤ 10000; omega)
  refine ⟨q1, by unfold Pd.replace; rw [if_pos (by omega)]; exact k1, fun hq1 => ?_⟩
  have hr1 : q1.room = 10000 := k3
  obtain ⟨q2, m1, m2, m3, m4, m5, m6⟩ := k2.add (name := nL) (xs := s) hq1 (by omega) (by omega)
  have gL1 : getE q1.L nL = none := k7 nL (by decide) (by decide)
  refine ⟨q2, m1, fun hq2 => ?_⟩
  obtain ⟨q3, hq3⟩ : ∃ q3 : Pd, q3 = { q2 with after := (a : Int), torn := torn } := ⟨_, rfl⟩
  rw [← hq3] at hq2 ⊢
  have e1 : q3.L = q2.L := by rw [hq3]
  have R3 : Rm q3 216 := ⟨hq2, by rw [e1]; omega, by rw [hq3]; exact m3.trans k3⟩
  have d3 : q3.dead = false := by rw [hq3]; exact m2.dead
  have a3 : q3.after = (a : Int) := by rw [hq3]
  have gG : getE q3.L (fresh nF) = none := by rw [e1, m6 _ (by decide)]; exact k6
  have gF : getE q3.L nF = some ⟨nF, fr s, (fr s).length⟩ := by rw [e1, m6 _ (by decide)]; exact k5
  have gL : getE q3.L nL = some ⟨nL, fr s, (fr s).length⟩ := by rw [e1, m5, gL1]; rfl
  obtain ⟨ra, q4, n1, n2, n3, n4⟩ := repl_pure R3 (by omega) d3 a3 (name := nF) gG ht
  have gL4 : getE q4.L nL = some ⟨nL, fr s, (fr s).length⟩ := by rw [n3 nL (by decide) (by decide)]; exact gL
  have hd4 : q4.dead = true ∨ (q4.dead = false ∧ ∃ a : Nat, q4.after = (a : Int)) := by
    rcases n4 with ⟨_, h, _⟩ | ⟨_, h, b, hb, _⟩
    · exact Or.inl h
    · exact Or.inr ⟨h, b, hb⟩
  obtain ⟨rb, q5, o1, o2, o3, k, syn, o4, o5, o6⟩ := add_pure n2 (by omega) hd4 gL4 hu
  refine ⟨ra, q4, rb, q5, n1, o1, o2.room, fun keep => ?_⟩
  have gF5 : getE q5.L nF = getE q4.L nF := o3 nF (by decide)
  rcases n4 with ⟨h0, _, h2⟩ | ⟨h0, _, b, _, h2⟩
  · exact behind_pure hs hu (o2.up (by omega)) keep (v := s) (by rw [gF5, h2, gF]) (Or.inl rfl) (fun h => absurd h h0) o4 o5 o6
  · exact behind_pure hs hu (o2.up (by omega)) keep (v := t) (by rw [gF5, h2]) (Or.inr rfl) (fun _ => rfl) o4 o5 o6
end Go.Proofs.Ytoiooohdenfpmaa
