/- Merged: Qi, Qj, Qk, Ql, Qm, Qo, Qt, Qz. -/
import Derived.Test.YtekoaheiapddiaaGreatM04
import Derived.Test.YtekoaheiapddiaaGreatM06
import Derived.SliceStrings
import Derived.Carry
import Derived.ProofKit
import Derived.OpenShut
import Derived.ChangeMaps5
import Derived.Test.YtekoaheiapddiaaGreatM05
import Derived.BigQuiet
section
namespace Go.Proofs.YtekoaheiapddiaaGreat.Dz
open Go.RowKit
set_option maxRecDepth 100000 in
set_option maxHeartbeats 1000000 in
theorem inOrder_c (steps:List (FuncId×Array Value)) (g c : Nat) (hc:steps.length≤c) (hl:steps.length≤1000) (Q:Nat→World→Prop) (R:Int→World→Prop) (W:World) (h0:Q 0 W)
  (hcell:∀ (k:Nat) (V:World) (st:FuncId×Array Value),Q k V→steps[k]?=some st→V.cell? ⟨g,k,none⟩=some (.func (.func st.1) #[] st.2))
  (hen:∀ (k:Nat) (st:FuncId×Array Value),steps[k]?=some st→∀ w,(callFunc st.1 st.2).run Tryz.prog w=.ok (.enter st.1 st.2) w)
  (hstep:∀ (k:Nat) (st:FuncId×Array Value) (V:World),steps[k]?=some st→Q k V→Calls Tryz.prog st.1 st.2 V fun e V'=>∃ r,e=.returned (.int .i64 r)∧((r=0∧Q (k+1) V')∨(r≠0∧R r V'))) :
  Calls Tryz.prog 220 #[.slice (some ⟨g,0,none⟩) steps.length c] W fun e W'=>∃ r,e=.returned (.int .i64 r)∧((r=0∧Q steps.length W')∨(r≠0∧R r W')):=by
 have H:=Lib.hid (And.intro hcell (And.intro hen hstep))
 have HQ0:=Lib.hid h0
 obtain⟨n,hn⟩ : ∃ n,n=steps.length:=⟨_,rfl⟩
 have hni : (n:Int)≤1000:=by omega
 have hci : (n:Int)≤(c:Int):=by omega
 have HN:=Lib.hid hn
 rw [← hn]
 clear hcell hen hstep h0 hc hl hn
 go_enter Tryz.func220,Tryz.ntmps220
 go_wp2_with fail
 go_loopw [8] (fun i wr=>∃ k : Nat,k≤n∧i=.int .i64 k∧Q k wr) (fun i _=>n-(intOf i).toNat)
 case atStart=>exact⟨0,by omega,rfl,HQ0.out⟩
 case round=>
  obtain⟨k,hk,rfl,hq⟩:=hrel
  by_cases hlt : k<n
  ·obtain⟨st,hst⟩ : ∃ st,steps[k]?=some st:=⟨_,List.getElem?_eq_getElem (by have:=HN.out; omega)⟩
   have d1:=H.out.1 k _ st hq hst
   have hf:=H.out.2.1 k st hst
   have HC:=Lib.hid (H.out.2.2 k st _ hst hq)
   have hlti : (k:Int)<(n:Int):=by omega
   have hw : IntKind.i64.wrap ((k:Int)+1)=(k:Int)+1:=IntWalk.i64_in _ (by omega)
   clear hq hst H HQ0 HN
   obtain⟨nf,caps⟩:=st
   go_wp2_with fail
   refine HC.out.mono ?_
   rintro e V' ⟨r,rfl,hq⟩
   rcases hq with ⟨rfl,hq⟩ | ⟨hr,hq⟩
   ·have HQ:=Lib.hid hq
    clear hq HC d1
    go_wp2_with fail
    go_roundw
    case rel=>exact⟨k+1,by omega,by go_num,HQ.out⟩
    case measure=>simp [intOf]; omega
   ·have HQ:=Lib.hid (And.intro hr hq)
    have hrb : (r == 0)=false:=by simpa using hr
    clear hq HC d1
    go_wp2_with fail
    go_ret
    exact⟨r,rfl,Or.inr HQ.out⟩
  ·obtain rfl : k=n:=by omega
   have HQ:=Lib.hid hq
   clear hq H
   go_wp2_with fail
   go_ret
   exact⟨0,rfl,Or.inl ⟨rfl,HQ.out⟩⟩
def fresh (s:Nm) : Nm:=s ++ [46,110,101,119]
section
variable {p : Pd} {d N : Nat} {F : Nat→Prop} {W : World} {s xs : Nm}
end
end Go.Proofs.YtekoaheiapddiaaGreat.Dz
end
section
namespace Go.Proofs.YtekoaheiapddiaaGreat.Dz
open Go.RowKit
def runP (p:Pd) : List (Pd→Int×Pd)→Int×Pd
 | []=>(0,p)
 | f :: r=>if (f p).1=0 then runP (f p).2 r else f p
section
variable {p : Pd} {d N : Nat} {F : Nat→Prop} {W : World} {s xs : Nm}
theorem On.mono (h:On p d N F W) {M : Nat} (hM:N≤M) : On p d M F W:=by
 obtain⟨hp,x,h1,h2,h3,h4,h5⟩:=h
 exact⟨hp,x,h1,h2,h3,by omega,h5⟩
theorem run_c (steps:List (FuncId×Array Value)) (fs:List (Pd→Int×Pd)) (hfs:fs.length=steps.length) (g c : Nat) (hc:steps.length≤c) (hl:steps.length≤1000) (h:On p d N F W)
  (hg:∀ (k:Nat) (st:FuncId×Array Value),steps[k]?=some st→W.cell? ⟨g,k,none⟩=some (.func (.func st.1) #[] st.2)) (hgs:g<W.heap.size) (hgF:¬ F g)
  (hen:∀ (k:Nat) (st:FuncId×Array Value),steps[k]?=some st→∀ w,(callFunc st.1 st.2).run Tryz.prog w=.ok (.enter st.1 st.2) w)
  (hstep:∀ (k:Nat) (st:FuncId×Array Value) (f:Pd→Int×Pd),steps[k]?=some st→fs[k]?=some f→∀ (q:Pd) (F' : Nat→Prop) (V:World),On q d (N+k) F' V→Chg F F' W V →
    Calls Tryz.prog st.1 st.2 V fun e V'=>e=.returned (.int .i64 (f q).1)∧Left (f q).2 d (N+k+1) F' V V') :
  Calls Tryz.prog 220 #[.slice (some ⟨g,0,none⟩) steps.length c] W fun e W'=>e=.returned (.int .i64 (runP p fs).1)∧Left (runP p fs).2 d (N+steps.length) F W W':=by
 refine (inOrder_c steps g c hc hl (fun k V=>∃ q F',On q d (N+k) F' V∧Chg F F' W V∧runP p fs=runP q (fs.drop k)) (fun r V=>∃ q F',On q d (N+steps.length) F' V∧Chg F F' W V∧runP p fs=(r,q)) W ⟨p,F,h,Chg.refl _ _,rfl⟩ ?_ hen ?_).mono ?_
 ·rintro k V st ⟨q,F',h1,h2,h3⟩ hst
  exact (World.cell?_of_block (h2.block g hgs hgF)).trans (hg k st hst)
 ·rintro k st V hst ⟨q,F',h1,h2,h3⟩
  have hk : k<steps.length:=by
   rcases Nat.lt_or_ge k steps.length with h | h
   ·exact h
   ·rw [List.getElem?_eq_none h] at hst; cases hst
  obtain⟨f,hf⟩ : ∃ f,fs[k]?=some f:=⟨_,List.getElem?_eq_getElem (by omega)⟩
  have hd : fs.drop k=f :: fs.drop (k+1):=by
   have hkf : k<fs.length:=by omega
   rw [List.drop_eq_getElem_cons hkf]
   rw [List.getElem?_eq_getElem hkf] at hf
   injection hf with hf
   rw [hf]
  refine (hstep k st f hst hf q F' V h1 h2).mono ?_
  rintro e V' ⟨rfl,F2,k1,k2⟩
  refine⟨_,rfl,?_⟩
  by_cases hz : (f q).1=0
  ·exact Or.inl ⟨hz,_,F2,k1,h2.trans k2,by rw [h3,hd,runP,if_pos hz]⟩
  ·exact Or.inr ⟨hz,_,F2,k1.mono (by omega),h2.trans k2,by rw [h3,hd,runP,if_neg hz]⟩
 ·rintro e W' ⟨r,rfl,hq⟩
  rcases hq with ⟨rfl,q,F',h1,h2,h3⟩ | ⟨_,q,F',h1,h2,h3⟩
  ·rw [List.drop_of_length_le (by omega)] at h3
   rw [h3]
   exact⟨rfl,F',h1,h2⟩
  ·rw [h3]
   exact⟨rfl,F',h1,h2⟩
end
theorem enter_add1 (b0 b1 b2 : Value) (w:World) : (callFunc 221 #[b0,b1,b2]).run Tryz.prog w=.ok (.enter 221 #[b0,b1,b2]) w:=by kernel_rfl
set_option maxRecDepth 100000 in
theorem add1_c {V : World} {d b0 b1 b2 : Nat} {y1 y2 : ByteArray} {r : Int} {L : World→Prop} (c0:V.cell? ⟨b0,0,none⟩=some (.pointer (some ⟨d,0,none⟩))) (c1:V.cell? ⟨b1,0,none⟩=some (.string y1)) (c2:V.cell? ⟨b2,0,none⟩=some (.string y2))
  (C:Calls Tryz.prog 222 #[.pointer (some ⟨d,0,none⟩),.string y1,.string y2] V fun e V'=>e=.returned (.int .i64 r)∧L V') :
  Calls Tryz.prog 221 #[.pointer (some ⟨b0,0,none⟩),.pointer (some ⟨b1,0,none⟩),.pointer (some ⟨b2,0,none⟩)] V fun e V'=>e=.returned (.int .i64 r)∧L V':=by
 have HC:=Lib.hid C
 clear C
 go_enter Tryz.func221,Tryz.ntmps221
 go_wp2_with fail
 refine HC.out.mono ?_
 rintro e W2 ⟨rfl,hq⟩
 have HQ:=Lib.hid hq
 clear hq HC
 go_wp2_with fail
 go_ret
 exact⟨rfl,HQ.out⟩
theorem enter_add2 (b0 b1 : Value) (w:World) : (callFunc 223 #[b0,b1]).run Tryz.prog w=.ok (.enter 223 #[b0,b1]) w:=by kernel_rfl
set_option maxRecDepth 100000 in
theorem add2_c {V : World} {d b0 b1 : Nat} {y1 : ByteArray} {r : Int} {L : World→Prop} (c0:V.cell? ⟨b0,0,none⟩=some (.pointer (some ⟨d,0,none⟩))) (c1:V.cell? ⟨b1,0,none⟩=some (.string y1))
  (C:Calls Tryz.prog 224 #[.pointer (some ⟨d,0,none⟩),.string y1] V fun e V'=>e=.returned (.int .i64 r)∧L V') :
  Calls Tryz.prog 223 #[.pointer (some ⟨b0,0,none⟩),.pointer (some ⟨b1,0,none⟩)] V fun e V'=>e=.returned (.int .i64 r)∧L V':=by
 have HC:=Lib.hid C
 clear C
 go_enter Tryz.func223,Tryz.ntmps223
 go_wp2_with fail
 refine HC.out.mono ?_
 rintro e W2 ⟨rfl,hq⟩
 have HQ:=Lib.hid hq
 clear hq HC
 go_wp2_with fail
 go_ret
 exact⟨rfl,HQ.out⟩
end Go.Proofs.YtekoaheiapddiaaGreat.Dz
end
section
namespace Go.Proofs.YtekoaheiapddiaaGreat.Dz
open Go.RowKit
theorem allocs5 (W:World) (o0 o1 o2 o3 o4 : Obj) : ((((((W.alloc o0).alloc o1).alloc o2).alloc o3).alloc o4).heap[W.heap.size]?=some o0∧(((((W.alloc o0).alloc o1).alloc o2).alloc o3).alloc o4).heap[W.heap.size+1]?=some o1∧(((((W.alloc o0).alloc o1).alloc o2).alloc o3).alloc o4).heap[W.heap.size+2]?=some o2 ∧
    (((((W.alloc o0).alloc o1).alloc o2).alloc o3).alloc o4).heap[W.heap.size+3]?=some o3∧(((((W.alloc o0).alloc o1).alloc o2).alloc o3).alloc o4).heap[W.heap.size+4]?=some o4)∧Below W.heap.size W (((((W.alloc o0).alloc o1).alloc o2).alloc o3).alloc o4)∧(((((W.alloc o0).alloc o1).alloc o2).alloc o3).alloc o4).heap.size=W.heap.size+5:=by
 refine⟨?_,?_,?_⟩
 ·simp only [World.alloc,Array.getElem?_push,Array.size_push]
  refine⟨?_,?_,?_,?_,?_⟩ <;> ((repeat first | rw [if_neg (by omega)]); first | exact if_pos trivial | exact if_pos rfl | rw [if_pos (by omega)])
 ·exact (((((Below.refl _ _).alloc (Nat.le_refl _) _).alloc (by simp) _).alloc (by simp; omega) _).alloc (by simp; omega) _).alloc (by simp; omega) _
 ·simp
section
variable {p : Pd} {d N : Nat} {F : Nat→Prop} {W : World} {s xs name : Nm}
theorem On.lt (h:On p d N F W) {k : Nat} (hk:F k) : k<W.heap.size:=by
 obtain⟨hp,x,rfl,rfl,h1,h2,h3⟩:=h
 exact h1.lt hk
theorem On.below (h:On p d N F W) {W' : World} (hb:Below W.heap.size W W') : On p d N F W':=by
 obtain⟨hp,x,rfl,rfl,h1,h2,h3⟩:=h
 exact⟨hp,x,rfl,rfl,h1.below hb,h2,h3⟩
theorem On.kept (h:On p d N F W) {W' : World} (hk:∀ k,F k→W'.heap[k]?=W.heap[k]?) : On p d N F W':=by
 obtain⟨hp,x,rfl,rfl,h1,h2,h3⟩:=h
 exact⟨hp,x,rfl,rfl,h1.kept hk,h2,h3⟩
def Pd.add (p:Pd) (name s : Nm) : Int×Pd:=if s.length≤65536 then runP p [(·.append name (fr s)),(·.sync name)] else (3,p)
theorem allocs3 (W:World) (o0 o1 o2 : Obj) : Below W.heap.size W (((W.alloc o0).alloc o1).alloc o2):=(((Below.refl _ _).alloc (Nat.le_refl _) _).alloc (by simp) _).alloc (by simp; omega) _
theorem allocs2 (W:World) (o0 o1 : Obj) : (((W.alloc o0).alloc o1).heap[W.heap.size]?=some o0∧((W.alloc o0).alloc o1).heap[W.heap.size+1]?=some o1)∧Below W.heap.size W ((W.alloc o0).alloc o1)∧((W.alloc o0).alloc o1).heap.size=W.heap.size+2:=by
 refine⟨?_,?_,?_⟩
 ·simp only [World.alloc,Array.getElem?_push,Array.size_push]
  refine⟨?_,?_⟩ <;> ((repeat first | rw [if_neg (by omega)]); first | exact if_pos trivial | exact if_pos rfl | rw [if_pos (by omega)])
 ·exact ((Below.refl _ _).alloc (Nat.le_refl _) _).alloc (by simp) _
 ·simp
set_option maxRecDepth 100000 in
set_option maxHeartbeats 1000000 in
theorem On.add (h:On p d N F W) (hN:N<990000) (hs:name.length≤1000000) :
  Calls Tryz.prog 175 #[.pointer (some ⟨d,0,none⟩),.string (str name),.string (str xs)] W fun e W'=>e=.returned (.int .i64 (p.add name xs).1)∧Left (p.add name xs).2 d (N+4) F W W':=by
 by_cases hl : xs.length≤65536
 ·have C1:=Lib.hid (fun W=>frame_c xs hl W)
  have HP:=Lib.hid (show p.add name xs=runP p [(·.append name (fr xs)),(·.sync name)] from if_pos hl)
  have hnl : name.length≤maxLen:=by unfold maxLen; omega
  have hfl : (fr xs).length≤900000000:=by rw [fr_len]; omega
  have H:=Lib.hid (And.intro h (And.intro hN (And.intro hnl hfl)))
  rw [HP.out]
  clear h hN hs hl HP hnl hfl
  generalize hf : str (fr xs)=f at *
  generalize hy : str name=y at *
  have HY:=Lib.hid (And.intro hf hy)
  clear hf hy
  generalize str xs=z at *
  go_enter Tryz.func175,Tryz.ntmps175
  go_wp2_with fail
  refine (C1.out _).mono ?_
  rintro e w1 ⟨rfl,h1⟩
  have HB:=Lib.hid h1; clear h1 C1
  go_wp2_with fail
  obtain⟨⟨a0,a1⟩,hb1,hs1⟩:=allocs2 W (.cells #[.pointer (some ⟨d,0,none⟩)] 26) (.cells #[.string y] 9)
  obtain⟨⟨a2,a3⟩,hb2,hs2⟩:=allocs2 w1 (.cells #[.string f] 9) (.cells #[.func (.func 221) #[] #[.pointer (some ⟨W.heap.size,0,none⟩),.pointer (some ⟨W.heap.size+1,0,none⟩),.pointer (some ⟨w1.heap.size,0,none⟩)],
    .func (.func 223) #[] #[.pointer (some ⟨W.heap.size,0,none⟩),.pointer (some ⟨W.heap.size+1,0,none⟩)]] 312)
  have hB:=HB.out
  generalize (W.alloc (.cells #[.pointer (some ⟨d,0,none⟩)] 26)).alloc (.cells #[.string y] 9)=W0 at *
  generalize (w1.alloc (.cells #[.string f] 9)).alloc (.cells #[.func (.func 221) #[] #[.pointer (some ⟨W.heap.size,0,none⟩),.pointer (some ⟨W.heap.size+1,0,none⟩),.pointer (some ⟨w1.heap.size,0,none⟩)],
    .func (.func 223) #[] #[.pointer (some ⟨W.heap.size,0,none⟩),.pointer (some ⟨W.heap.size+1,0,none⟩)]] 312)=V at *
  have hs3:=hB.size
  have e0 : V.heap[W.heap.size]?=some (.cells #[.pointer (some ⟨d,0,none⟩)] 26 (0,0)):=(hb2.block _ (by omega)).trans ((hB.block _ (by omega)).trans a0)
  have e1 : V.heap[W.heap.size+1]?=some (.cells #[.string y] 9 (0,0)):=(hb2.block _ (by omega)).trans ((hB.block _ (by omega)).trans a1)
  have hbV : Below W.heap.size W V:=hb1.trans ((hB.mono (by omega)).trans (hb2.mono (by omega)))
  have hfar : ∀ k,W.heap.size≤k→¬ F k:=fun k hk hf=>by have:=H.out.1.lt hf; omega
  have HR : Calls Tryz.prog 220 #[.slice (some ⟨w1.heap.size+1,0,none⟩) 2 2] V fun e W'=>e=.returned (.int .i64 (runP p [(·.append name (fr xs)),(·.sync name)]).1)∧Left (runP p [(·.append name (fr xs)),(·.sync name)]).2 d (N+2) F V W':=by
   have q0 : ∀ (F' : Nat→Prop) (U:World),Chg F F' V U→U.cell? ⟨W.heap.size,0,none⟩=some (.pointer (some ⟨d,0,none⟩)):=fun F' U hc=>cell_of ((hc.block _ (by omega) (hfar _ (by omega))).trans e0) 0
   have q1 : ∀ (F' : Nat→Prop) (U:World),Chg F F' V U→U.cell? ⟨W.heap.size+1,0,none⟩=some (.string y):=fun F' U hc=>cell_of ((hc.block _ (by omega) (hfar _ (by omega))).trans e1) 0
   have q2 : ∀ (F' : Nat→Prop) (U:World),Chg F F' V U→U.cell? ⟨w1.heap.size,0,none⟩=some (.string f):=fun F' U hc=>cell_of ((hc.block _ (by omega) (hfar _ (by omega))).trans a2) 0
   have hN:=H.out.2.1
   refine run_c [(221,#[.pointer (some ⟨W.heap.size,0,none⟩),.pointer (some ⟨W.heap.size+1,0,none⟩),.pointer (some ⟨w1.heap.size,0,none⟩)]),(223,#[.pointer (some ⟨W.heap.size,0,none⟩),.pointer (some ⟨W.heap.size+1,0,none⟩)])]
    [(·.append name (fr xs)),(·.sync name)] rfl (w1.heap.size+1) 2 (Nat.le_refl 2) (show 2≤1000 by omega) (H.out.1.below hbV) ?_ (by omega) (hfar _ (by omega)) ?_ ?_
   ·intro k st hk
    match k,hk with
    | 0,hk=>cases hk; exact cell_of a3 0
    | 1,hk=>cases hk; exact cell_of a3 1
   ·intro k st hk w
    match k,hk with
    | 0,hk=>cases hk; exact enter_add1 _ _ _ w
    | 1,hk=>cases hk; exact enter_add2 _ _ w
   ·intro k st g hk hf q F' U h1 h2
    match k,hk,hf,h1 with
    | 0,hk,hf,h1=>cases hk; cases hf; exact add1_c (q0 _ _ h2) (q1 _ _ h2) (q2 _ _ h2) (HY.out.1 ▸ HY.out.2 ▸ h1.append (by omega) H.out.2.2.1 H.out.2.2.2)
    | 1,hk,hf,h1=>cases hk; cases hf; exact add2_c (q0 _ _ h2) (q1 _ _ h2) (HY.out.2 ▸ h1.sync (by omega) H.out.2.2.1)
  have HC:=Lib.hid (And.intro HR hbV)
  clear HR a0 a1 a2 a3 e0 e1 hb1 hb2 hs1 hs2 hs3 hfar hB hbV HB
  refine HC.out.1.mono ?_
  rintro e W2 ⟨rfl,F',k1,k2⟩
  have HQ:=Lib.hid (show Left (runP p [(·.append name (fr xs)),(·.sync name)]).2 d (N+4) F W W2 from⟨F',k1.mono (by omega),(Chg.of_below HC.out.2).trans k2⟩)
  clear k1 k2 HC
  go_wp2_with fail
  go_ret
  exact⟨rfl,HQ.out⟩
 ·have C1:=Lib.hid (fun W=>frame_long (str xs) (by rw [str_size]; omega) W)
  have HP:=Lib.hid (show p.add name xs=(3,p) from if_neg hl)
  have HL:=Lib.hid (show On p d N F W from h)
  rw [HP.out]
  clear h hN hs hl HP
  generalize str name=y at *
  generalize str xs=z at *
  go_enter Tryz.func175,Tryz.ntmps175
  go_wp2_with fail
  refine (C1.out _).mono ?_
  rintro e w1 ⟨rfl,rfl⟩
  clear C1
  go_wp2_with fail
  go_ret
  have hb:=(allocs3 W (.cells #[.pointer (some ⟨d,0,none⟩)] 26) (.cells #[.string y] 9) (.cells #[.string (str [])] 9))
  exact⟨rfl,F,(HL.out.below hb).mono (by omega),Chg.of_below hb⟩
end
end Go.Proofs.YtekoaheiapddiaaGreat.Dz
end
section
namespace Go.Proofs.YtekoaheiapddiaaGreat.Dz
open Go.RowKit
theorem readV_eq (o:Option Ent) : readV o=.tuple #[.string (str (bsE o)),.bool o.isSome]:=by cases o <;> rfl
theorem Fs.exist (s:Nm) : ∃ l r,Fs s l r:=by
 generalize hn : s.length=n
 induction n using Nat.strongRecOn generalizing s with
 | _ n ih=>
  cases h : firstP s with
  | none=>exact⟨[],s,rfl,by simp,h⟩
  | some t=>
   obtain⟨h1,r,rfl⟩:=firstP_some.1 h
   rw [List.length_append,fr_len] at hn
   obtain⟨l,q,k⟩:=ih r.length (by omega) r rfl
   exact⟨t :: l,q,by rw [frs,List.append_assoc,← k.eq],fun u hu=>by
     rcases List.mem_cons.1 hu with rfl | hu
     · exact h1
     · exact k.all u hu,k.none⟩
section
variable {p : Pd} {d N : Nat} {F : Nat→Prop} {W : World} {name : Nm}
set_option maxRecDepth 100000 in
theorem On.all (h:On p d N F W) (hs:name.length≤maxLen) {l : List Nm} {r : Nm} (hF:Fs (bsE (getE p.L name)) l r) :
  Calls Tryz.prog 53 #[.pointer (some ⟨d,0,none⟩),.string (str name)] W fun e W'=>∃ v,e=.returned v∧OwnS W.heap.size l v W'∧Below W.heap.size W W':=by
 have C1:=Lib.hid (h.read hs)
 rw [readV_eq] at C1
 have hb:=bs_le h.ok name
 have C2:=Lib.hid (fun W=>frames_c (bsE (getE p.L name)) (by omega) W)
 have H:=Lib.hid hF
 clear h hs hF hb
 generalize bsE (getE p.L name)=bs at *
 generalize str name=y at *
 generalize Option.isSome _=q at *
 generalize str bs=z at *
 go_enter Tryz.func53,Tryz.ntmps53
 go_wp2_with fail
 refine C1.out.mono ?_
 rintro e w1 ⟨rfl,rfl⟩
 clear C1
 go_wp2_with fail
 refine (C2.out _).mono ?_
 rintro e w2 ⟨l2,r2,v,rfl,h1,h2,h3⟩
 obtain⟨rfl,rfl⟩:=h1.inj H.out
 obtain⟨va,vc,rfl⟩:=h2.form
 have HQ:=Lib.hid (And.intro h2 h3)
 clear h1 h2 h3 C2
 go_wp2_with fail
 go_ret
 exact⟨_,rfl,HQ.out⟩
end
section
variable {p : Pd} {d N : Nat} {F : Nat→Prop} {W : World} {name : Nm}
end
end Go.Proofs.YtekoaheiapddiaaGreat.Dz
end
section
namespace Go.Proofs.YtekoaheiapddiaaGreat.Dz
open Go.RowKit
structure Hl (p:Pd) : Prop where
 dead : p.dead=false
 after : p.after=-1
theorem Hl.tick {p : Pd} (h:Hl p) : p.tick=p:=by
 cases p
 have:=h.after
 simp only at this
 simp only [Pd.tick,this]
 rfl
section
variable {p : Pd} {s xs name : Nm}
theorem Hl.append (h:Hl p) (hu:usedE p.L+xs.length≤p.room) : p.append s xs=(0,p.app s xs):=by
 unfold Pd.append
 rw [if_neg (by rw [h.dead]; decide),if_neg (by rw [h.after]; decide),if_pos hu,h.tick]
theorem Hl.change (h:Hl p) {e : Ent} (hg:getE p.L s=some e) (f:Ent→List Ent) : p.change s f=(0,{ p with L:=f e }):=by
 unfold Pd.change
 rw [if_neg (by rw [h.dead]; decide),if_neg (by rw [h.after]; decide),hg,h.tick]
theorem Hl.with (h:Hl p) (L:List Ent) : Hl { p with L:=L }:=⟨h.dead,h.after⟩
theorem Hl.add (h:Hl p) (hp:p.Ok) (hs:xs.length≤65536) (hu:usedE p.L+xs.length+8≤p.room) : ∃ q,p.add name xs=(0,q)∧Hl q∧q.room=p.room∧usedE q.L=usedE p.L+xs.length+8 ∧
  getE q.L name=some ⟨name,bsE (getE p.L name) ++ fr xs,(bsE (getE p.L name) ++ fr xs).length⟩∧∀ t,t≠name→getE q.L t=getE p.L t:=by
 have hfl : usedE p.L+(fr xs).length≤p.room:=by rw [fr_len]; omega
 have ha:=h.append (s:=name) hfl
 have hg : getE (p.app name (fr xs)).L name=some ⟨name,bsE (getE p.L name) ++ fr xs,synE (getE p.L name)⟩:=by
  show getE (putE _ _) _=_
  rw [getE_put,if_pos rfl]
 have hH : Hl (p.app name (fr xs)):=h.with _
 have hb:=hH.change hg fun e=>putE (p.app name (fr xs)).L ⟨name,e.bs,e.bs.length⟩
 refine⟨{ p.app name (fr xs) with L:=putE (p.app name (fr xs)).L ⟨name,bsE (getE p.L name) ++ fr xs,(bsE (getE p.L name) ++ fr xs).length⟩ },?_,hH.with _,rfl,?_,?_,?_⟩
 ·unfold Pd.add
  rw [if_pos hs]
  simp only [runP,ha,if_pos]
  rw [show (p.app name (fr xs)).sync name=_ from hb]
  simp only [if_pos]
 ·have h1:=used_app hp name (fr xs)
  have h2:=usedE_put (hp.app (s:=name) hfl).up ⟨name,bsE (getE p.L name) ++ fr xs,(bsE (getE p.L name) ++ fr xs).length⟩
  simp only [hg,lenE] at h2
  rw [fr_len] at h1
  show usedE (putE _ _)=_
  omega
 ·show getE (putE _ _) _=_
  rw [getE_put,if_pos rfl]
 ·intro t ht
  show getE (putE _ _) _=_
  rw [getE_put,if_neg ht]
  show getE (putE _ _) _=_
  rw [getE_put,if_neg ht]
end
theorem Hl.new (room:Nat) : Hl (Pd.new room):=⟨rfl,rfl⟩
section
variable {p q : Pd} {d N M : Nat} {F G : Nat→Prop} {W0 W W' : World}
end
end Go.Proofs.YtekoaheiapddiaaGreat.Dz
end
section
namespace Go.Proofs.YtekoaheiapddiaaGreat.Dz
open Go.RowKit
section
open Go.ChangeShapes Go.WideShapes Go.ChangeAt
variable {H : Type} {enc : TypeId×Value→H} {w : World} {base : Nat} {held : Bool} {r : Reach} {b0 : Nat} {v : Value} {d : DataW H} {p : List MemPlace}
theorem laidOut : laidOutB Tryz.prog=true:=by kernel_rfl
end
section
variable {p q : Pd} {d N M : Nat} {K J : Nat→Prop} {W0 W W' : World}
end
end Go.Proofs.YtekoaheiapddiaaGreat.Dz
end
section
namespace Go.Proofs.YtekoaheiapddiaaGreat.Dz
open Go.RowKit Go.Maps
section
variable {p : Pd} {d N : Nat} {F : Nat→Prop} {W : World}
end
end Go.Proofs.YtekoaheiapddiaaGreat.Dz
end
section
namespace Go.Proofs.YtekoaheiapddiaaGreat.Dz
open Go.RowKit
set_option maxRecDepth 100000 in
theorem rbe4_c (n:Nat) (hn:n<4294967296) (w:World) : Calls Tryz.prog 195 #[.int .u32 n] w fun e w'=>e=.returned (.string (str (be4 n)))∧Below w.heap.size w w':=by
 have hc:=conv_be4 n hn
 generalize str (be4 n)=z at *
 go_enter Tryz.func195,Tryz.ntmps195
 go_wp2_with fail
 go_ret
 exact⟨rfl,(Below.refl _ _).alloc (Nat.le_refl _) _⟩
set_option maxRecDepth 100000 in
set_option maxHeartbeats 1000000 in
theorem rframe_c (s:List UInt8) (hs:s.length≤65536) (w:World) : Calls Tryz.prog 156 #[.string (str s)] w fun e w'=>e=.returned (.tuple #[.string (str (fr s)),.bool true])∧Below w.heap.size w w':=by
 have hsz:=str_size s
 have C1:=Lib.hid (fun W=>rbe4_c s.length (by omega) W)
 have C2:=Lib.hid (fun W=>rsum_c (s:=str (be4 s.length ++ s)) (by rw [str_size,List.length_append,be4_len]; unfold maxLen; omega) W)
 have C4:=Lib.hid (fun W=>rbe4_c (sumN (str (be4 s.length ++ s))) (sumN_lt _) W)
 have HF:=Lib.hid (show str (be4 s.length) ++ str (be4 (sumN (str (be4 s.length ++ s)))) ++ str s=str (fr s) by rw [str_app,str_app,fr,List.append_assoc])
 have hcat : str (be4 s.length) ++ str s=str (be4 s.length ++ s):=str_app _ _
 have z1:=be4_size s.length
 have z2:=be4_size (sumN (str (be4 s.length ++ s)))
 generalize str (fr s)=out at *
 generalize str (be4 (sumN (str (be4 s.length ++ s))))=t2 at *
 generalize sumN (str (be4 s.length ++ s))=k2 at *
 generalize str (be4 s.length ++ s)=t3 at *
 generalize str (be4 s.length)=t1 at *
 generalize str s=t0 at *
 generalize s.length=n at *
 go_enter Tryz.func156,Tryz.ntmps156
 go_wp2_with fail
 refine (C1.out _).mono ?_
 rintro e w1 ⟨rfl,h1⟩
 have B1:=Lib.hid h1; clear h1 C1
 go_wp2_with fail
 refine (C2.out _).mono ?_
 rintro e w2 ⟨rfl,rfl⟩
 clear C2
 go_wp2_with fail
 refine (C4.out _).mono ?_
 rintro e w4 ⟨rfl,h1⟩
 have B4:=Lib.hid (B1.out.trans (h1.mono B1.out.size)); clear h1 C4 B1
 go_wp2_with fail
 go_ret2
 exact⟨by rw [← HF.out]; rfl,B4.out⟩
set_option maxRecDepth 100000 in
theorem rframe_long (s:ByteArray) (hs:65536<s.size) (w:World) : Calls Tryz.prog 156 #[.string s] w fun e w'=>e=.returned (.tuple #[.string (str []),.bool false])∧w'=w:=by
 go_enter Tryz.func156,Tryz.ntmps156
 go_wp2_with fail
 go_ret2
 exact⟨rfl,rfl⟩
theorem i64_or_nat (a b : Nat) (ha:a<9223372036854775808) (hb:b<9223372036854775808) : Go.bits .or .i64 (a:Int) (b:Int)=((a ||| b : Nat) : Int):=by
 have hx : a ||| b<2 ^ 63:=Nat.or_lt_two_pow (by omega) (by omega)
 show IntKind.i64.wrap ((BitVec.ofInt 64 (a:Int) ||| BitVec.ofInt 64 (b:Int)).toNat : Int)=_
 rw [BitVec.toNat_or,ofInt_u64 a (by omega),ofInt_u64 b (by omega),IntKind.wrap_i64]
 omega
theorem or_sum (a b i : Nat) (h:b<2 ^ i) : a*2 ^ i ||| b=a*2 ^ i+b:=by
 have:=Nat.shiftLeft_add_eq_or_of_lt h a
 rw [Nat.shiftLeft_eq] at this
 exact this.symm
theorem or4 {a b c d : Nat} (ha:a<256) (hb:b<256) (hc:c<256) (hd:d<256) :
  Go.bits .or .i64 (Go.bits .or .i64 (Go.bits .or .i64 ((a:Int)*16777216) ((b:Int)*65536)) ((c:Int)*256)) (d:Int)=((((a*256+b)*256+c)*256+d : Nat) : Int):=by
 have e1 : Go.bits .or .i64 ((a:Int)*16777216) ((b:Int)*65536)=((a*16777216+b*65536 : Nat) : Int):=by
  have:=i64_or_nat (a*16777216) (b*65536) (by omega) (by omega)
  rw [or_sum a (b*65536) 24 (by omega)] at this
  exact this
 have e2 : Go.bits .or .i64 ((a*16777216+b*65536 : Nat) : Int) ((c:Int)*256)=((a*16777216+b*65536+c*256 : Nat) : Int):=by
  have:=i64_or_nat (a*16777216+b*65536) (c*256) (by omega) (by omega)
  rw [show a*16777216+b*65536=(a*256+b)*2 ^ 16 by omega,or_sum (a*256+b) (c*256) 16 (by omega),← show a*16777216+b*65536=(a*256+b)*2 ^ 16 by omega] at this
  exact this
 have e3 : Go.bits .or .i64 ((a*16777216+b*65536+c*256 : Nat) : Int) (d:Int)=((a*16777216+b*65536+c*256+d : Nat) : Int):=by
  have:=i64_or_nat (a*16777216+b*65536+c*256) d (by omega) (by omega)
  rw [show a*16777216+b*65536+c*256=((a*256+b)*256+c)*2 ^ 8 by omega,or_sum ((a*256+b)*256+c) d 8 (by omega),← show a*16777216+b*65536+c*256=((a*256+b)*256+c)*2 ^ 8 by omega] at this
  exact this
 rw [e1,e2,e3]
 exact congrArg (fun n : Nat=>(n:Int)) (by omega)
theorem str_extract (s:List UInt8) (a b : Nat) : (str s).extract a b=str ((s.drop a).take (b-a)):=by
 apply ByteArray.ext
 simp [str,ByteArray.data_extract]
theorem byteAt_app (a r : List UInt8) (j:Nat) : byteAtK (str (a ++ r)) (a.length+j)=byteAtK (str r) j:=by
 rw [byteAt_str,byteAt_str]
 simp [List.getElem?_append_right]
theorem num_four {r : List UInt8} (h:4≤r.length) : num (r.take 4)=((byteAtK (str r) 0*256+byteAtK (str r) 1)*256+byteAtK (str r) 2)*256+byteAtK (str r) 3:=by
 match r,h with
 | a :: b :: c :: d :: r,_=>simp [num,byteAt_str]
set_option maxRecDepth 100000 in
set_option maxHeartbeats 2000000 in
theorem rframes_c (s:List UInt8) (hs:s.length≤1000000000) (w:World) : Calls Tryz.prog 107 #[.string (str s)] w fun e w'=>
  ∃ l r v,e=.returned (.tuple #[v,.int .i64 ((frs l).length : Nat)])∧Fs s l r∧OwnS w.heap.size l v w'∧Below w.heap.size w w':=by
 have HX:=Lib.hid hs
 have hsz:=str_size s
 go_enter Tryz.func107,Tryz.ntmps107
 go_wp2_with fail
 go_loopw [4,5] (fun v i wr=>∃ l r,s=frs l ++ r∧(∀ t∈l,t.length≤65536)∧i=.int .i64 ((frs l).length : Nat)∧OwnS w.heap.size l v wr∧Below w.heap.size w wr) (fun _ i _=>s.length-(intOf i).toNat)
 case atStart=>exact⟨[],s,rfl,by simp,rfl,World.ownsRow_nil _ _ _ _,Below.refl _ _⟩
 case round=>
  obtain⟨l,r,he,hall,rfl,hown,hb⟩:=hrel
  obtain⟨va,vc,rfl⟩:=hown.form
  have hlen : s.length=(frs l).length+r.length:=by rw [he,List.length_append]
  have hln:=frs_len l
  have hA8 : IntKind.i64.wrap (((frs l).length : Int)+8)=((frs l).length : Int)+8:=IntWalk.i64_in _ (by omega)
  have hA8' : wrap64 (((frs l).length : Int)+8)=((frs l).length : Int)+8:=IntWalk.wrap64_in _ (by omega)
  by_cases h8 : r.length<8
  ·have hnone : firstP r=none:=by
    cases h : firstP r with
    | none=>rfl
    | some t=>
     obtain⟨_,q,rfl⟩:=firstP_some.1 h
     rw [List.length_append,fr_len] at h8
     omega
   have HR:=Lib.hid (show Fs s l r∧OwnS w.heap.size l (.slice va l.length vc) wr∧Below w.heap.size w wr from⟨⟨he,hall,hnone⟩,hown,hb⟩)
   have hgt : ¬ ((frs l).length : Int)+8≤(s.length : Int):=by omega
   clear he hall hown hb hnone
   generalize str s=ss at *
   generalize s.length=n at *
   go_wp2_with fail
   go_ret2
   exact⟨l,r,_,rfl,HR.out.1,HR.out.2⟩
  ·have hge : ((frs l).length : Int)+8≤(s.length : Int):=by omega
   have X0 : ∀ (j:Nat) (_:j<4) (i:Int) (_:i=(((frs l).length+j : Nat) : Int)) (W:World),(Instr.index 9 (.string (str s)) (.int .i64 i)).run Tryz.prog W=.ok (.int .u8 (byteAtK (str r) j : Nat)) W:=fun j hj i hi W=>by
    have h:=index_i64K (str s) i ((frs l).length+j) (by rw [hsz]; omega) hi W
    have e : byteAtK (str s) ((frs l).length+j)=byteAtK (str r) j:=by rw [he,byteAt_app]
    rw [e] at h
    exact h
   have x0:=X0 0 (by omega) ((frs l).length : Int) (by simp)
   have x1:=X0 1 (by omega) (((frs l).length : Int)+1) (by simp)
   have x2:=X0 2 (by omega) (((frs l).length : Int)+2) (by simp)
   have x3:=X0 3 (by omega) (((frs l).length : Int)+3) (by simp)
   have hnum:=num_four (r:=r) (by omega)
   have b0:=byteAt_ltK (str r) 0
   have b1:=byteAt_ltK (str r) 1
   have b2:=byteAt_ltK (str r) 2
   have b3:=byteAt_ltK (str r) 3
   have w1 : IntKind.i64.wrap (((frs l).length : Int)+1)=((frs l).length : Int)+1:=IntWalk.i64_in _ (by omega)
   have w2 : IntKind.i64.wrap (((frs l).length : Int)+2)=((frs l).length : Int)+2:=IntWalk.i64_in _ (by omega)
   have w3 : IntKind.i64.wrap (((frs l).length : Int)+3)=((frs l).length : Int)+3:=IntWalk.i64_in _ (by omega)
   clear X0
   generalize byteAtK (str r) 0=c0 at *
   generalize byteAtK (str r) 1=c1 at *
   generalize byteAtK (str r) 2=c2 at *
   generalize byteAtK (str r) 3=c3 at *
   have HR:=Lib.hid (And.intro he (And.intro hall (And.intro hown hb)))
   have HN:=Lib.hid (And.intro hnum (And.intro b0 (And.intro b1 (And.intro b2 (And.intro b3 (And.intro hlen (And.intro h8 hln)))))))
   clear he hall hown hb hnum hlen h8 hln
   generalize hss : str s=ss at *
   have HSS:=Lib.hid hss
   clear hss
   generalize hn : s.length=n at *
   have HNN:=Lib.hid hn
   clear hn
   go_wp2_with fail
   go_quiet (fail)
   rw [or4 b0 b1 b2 b3,← HN.out.1]
   obtain⟨m,hm⟩ : ∃ m,m=num (r.take 4):=⟨_,rfl⟩
   rw [← hm]
   have HM:=Lib.hid (And.intro hm (show m<4294967296 by rw [hm]; exact num_lt (by rw [List.length_take]; have:=HN.out.2.2.2.2.2.2.1; omega)))
   clear x0 x1 x2 x3 w1 w2 w3 hm hs b0 b1 b2 b3 hA8'
   have HB:=Lib.hid (show Below w.heap.size w (wr.drewN nq)∧OwnS w.heap.size l (.slice va l.length vc) (wr.drewN nq) from⟨below_drewN HR.out.2.2.2 nq,own_keep HR.out.2.2.1 fun _ _=>rfl⟩)
   generalize wr.drewN nq=wq at *
   have hkey : ∀ t,firstP r=some t→t.length=m∧t.length≤65536∧8+m≤r.length:=fun t ht=>by
    obtain⟨h1,q,hq⟩:=firstP_some.1 ht
    have h2 : m=t.length:=by rw [HM.out.1,hq,fr_take,num_be4 (by omega)]
    exact⟨h2.symm,h1,by rw [hq,List.length_append,fr_len]; omega⟩
   by_cases hbad : 65536<m∨n<(frs l).length+8+m
   ·have hnone : firstP r=none:=by
     cases h : firstP r with
     | none=>rfl
     | some t=>have:=hkey t h; have:=HN.out.2.2.2.2.2.1; omega
    have HF:=Lib.hid (show Fs s l r from⟨HR.out.1,HR.out.2.1,hnone⟩)
    have hw2 : IntKind.i64.wrap (((frs l).length : Int)+8+(m:Int))=((frs l).length : Int)+8+(m:Int):=IntWalk.i64_in _ (by have:=HM.out.2; have:=HX.out; have:=HN.out.2.2.2.2.2.1; omega)
    clear hkey hnone
    by_cases hb1 : (65536:Int)<(m:Int)
    ·clear hbad
     go_wp2_with fail
     go_ret2
     exact⟨l,r,_,rfl,HF.out,HB.out.2,HB.out.1⟩
    ·have hb2 : (n:Int)<((frs l).length : Int)+8+(m:Int):=by omega
     clear hbad
     go_wp2_with fail
     go_ret2
     exact⟨l,r,_,rfl,HF.out,HB.out.2,HB.out.1⟩
   ·have hb1 : ¬ (65536:Int)<(m:Int):=by omega
    have hb2 : ((frs l).length : Int)+8+(m:Int)≤(n:Int):=by omega
    have hw2 : IntKind.i64.wrap (((frs l).length : Int)+8+(m:Int))=((frs l).length : Int)+8+(m:Int):=IntWalk.i64_in _ (by have:=HX.out; omega)
    have hrl : 8+m≤r.length:=by have:=HN.out.2.2.2.2.2.1; omega
    obtain⟨t,ht⟩ : ∃ t,t=(r.drop 8).take m:=⟨_,rfl⟩
    have htl : t.length=m:=by rw [ht,List.length_take,List.length_drop]; omega
    have hx1 : ss.extract ((frs l).length+8) ((frs l).length+8+m)=str t:=by
     rw [← HSS.out,str_extract,HR.out.1,ht,← List.drop_drop,List.drop_left]
     congr 2; omega
    have hx2 : ss.extract (frs l).length ((frs l).length+8+m)=str (r.take (8+m)):=by
     rw [← HSS.out,str_extract,HR.out.1,List.drop_left]
     congr 2; omega
    have C1:=Lib.hid (fun W=>rframe_c t (by omega) W)
    have hzt:=str_size t
    have HT:=Lib.hid (And.intro ht htl)
    by_cases heq : fr t=r.take (8+m)
    ·have hsome : firstP r=some t:=firstP_some.2 ⟨by omega,r.drop (8+m),by rw [heq,List.take_append_drop]⟩
     have hqq : ((str (fr t)).toList == (str (r.take (8+m))).toList)=true:=by rw [str_toList,str_toList,heq]; simp
     have HN2:=Lib.hid (show s=frs (l ++ [t]) ++ r.drop (8+m)∧(∀ u∈l ++ [t],u.length≤65536)∧(frs (l ++ [t])).length=(frs l).length+8+m from
       ⟨by rw [HR.out.1,frs_append,frs_one,heq,List.append_assoc,List.take_append_drop],fun u hu=>by
         rcases List.mem_append.1 hu with h | h
         · exact HR.out.2.1 u h
         · rw [List.mem_singleton.1 h]; omega,by rw [frs_append,frs_one,List.length_append,fr_len]; omega⟩)
     have hln2 : l.length<1000000000:=by have:=HN.out.2.2.2.2.2.2.2; have:=HX.out; omega
     clear hkey hsome heq ht htl hrl hbad
     generalize str (r.take (8+m))=sr at *
     generalize str (fr t)=sf at *
     generalize hst' : str t=st at *
     have HST:=Lib.hid hst'
     clear hst'
     go_wp2_with fail
     refine (C1.out _).mono ?_
     rintro e w1 ⟨rfl,h1⟩
     have HO:=Lib.hid ((HB.out.2.keep h1).keep ((Below.refl _ _).alloc (Nat.le_refl _) (.cells #[.string st] 9)))
     have HBB:=Lib.hid ((HB.out.1.trans (h1.mono HB.out.1.size)).alloc (Nat.le_trans HB.out.1.size h1.size) (.cells #[.string st] 9))
     have HZ:=Lib.hid (heap_alloc_new w1 (.cells #[.string st] 9))
     have HW:=Lib.hid (show w.heap.size≤(w1.alloc (.cells #[.string st] 9)).heap.size by rw [alloc_size]; exact Nat.le_succ_of_le (Nat.le_trans HB.out.1.size h1.size))
     clear h1 C1
     go_wp2_with (at_builtin; refine wpList_append_one rfl _ _ 38 9 rfl Tryz.underlying38 _ 16 infoS rfl (by omega) w.heap.size (.slice va l.length vc) l.length (l.map encS) (by rfl) HO.out w1.heap.size (.string st) rfl (by rfl) HZ.out HW.out hln2 ?_; intro v2 W2 hown2 hgr _hbl; have HV:=Lib.hid (And.intro hown2 hgr); clear hown2 hgr _hbl)
     have e2:=HN2.out.2.2
     refine⟨⟨l ++ [t],r.drop (8+m),HN2.out.1,HN2.out.2.1,by rw [e2]; simp,?_,?_⟩,?_⟩
     ·unfold OwnS
      rw [List.length_append,List.map_append]
      have h:=HV.out.1
      rw [← HST.out] at h
      exact h
     ·exact HBB.out.trans (below_grown HV.out.2 (fun k hk=>(HO.out.lt hk).1) HW.out)
     ·simp only [intOf]
      omega
    ·have hnone : firstP r=none:=by
      cases h : firstP r with
      | none=>rfl
      | some u=>
       exfalso
       obtain⟨h1,q,hq⟩:=firstP_some.1 h
       have hk:=hkey u h
       have hut : t=u:=by rw [ht,hq,← hk.1,fr_text]
       apply heq
       rw [hut,hq,List.take_left' (by rw [fr_len]; omega)]
     have HF:=Lib.hid (show Fs s l r from⟨HR.out.1,HR.out.2.1,hnone⟩)
     have hqq : ((str (fr t)).toList == (str (r.take (8+m))).toList)=false:=by rw [str_toList,str_toList]; simpa using heq
     clear hkey hnone heq ht htl hrl hbad
     generalize str (r.take (8+m))=sr at *
     generalize str (fr t)=sf at *
     generalize str t=st at *
     go_wp2_with fail
     refine (C1.out _).mono ?_
     rintro e w1 ⟨rfl,h1⟩
     have HBB:=Lib.hid (And.intro (HB.out.2.keep h1) (HB.out.1.trans (h1.mono HB.out.1.size)))
     clear h1 C1
     go_wp2_with fail
     go_ret2
     exact⟨l,r,_,rfl,HF.out,HBB.out⟩
end Go.Proofs.YtekoaheiapddiaaGreat.Dz
end
