/- Merged: Gg, Gh, Gi. -/
import Derived.Test.YtekoaheiapddiaaGreatM33
import Derived.Test.YtekoaheiapddiaaGreatM25
import Derived.Test.YtekoaheiapddiaaGreatM29
section
namespace Go.Proofs.YtekoaheiapddiaaGreat.Dz
open Go.RowKit
abbrev wdR (n:Nat) : Obj:=.cells #[.int .u64 (l3 n : Nat),.int .u64 (l2 n : Nat),.int .u64 (l1 n : Nat),.int .u64 (l0 n : Nat)] 61 (0,0)
theorem askP_Q {name : Nm} {p : Pd} {c : Cl} {a : AskP} (h:a.addr.length=20) : askP name p c a=askQ name p c a:=by
 unfold askP
 rw [if_neg (by simp [h])]
 cases hg : getK c.known a with
 | none=>rw [askQ_new hg]
 | some r=>rw [askQ_known hg]
theorem askP_bad {name : Nm} {p : Pd} {c : Cl} {a : AskP} (h:a.addr.length≠20) : askP name p c a=((ReplyP.zero,1),p,c):=by unfold askP; rw [if_pos h]
section
variable {p : Pd} {c : Cl} {name : Nm} {e : Nat} {v : Value} {b : Nat} {cv sv av : Value} {n : Nat} {W : World}
theorem RGone.start {V : World} {L : List (Nat×Obj)} {F0 : Nat→Prop} (M:An (RAt p c name e v b cv sv av n) (ftR e v b cv sv av) W F0 L V) (hn:n=c.asked.length+1) : RGone (p,c) name e b F0 W V:=by
 subst hn
 exact⟨v,cv,sv,av,M.ob.it,M.chg⟩
theorem valZ : valC ReplyP.zero=#[.int .u64 0,.int .u64 0,.int .u64 0,.int .u64 0]:=rfl
theorem acc.finR {F0 : Nat→Prop} {V V' : World} {L : List (Nat×Obj)} {q : Nat} (M:An (RAt p c name e v b cv sv av n) (ftR e v b cv sv av) W F0 L V) (hn:n=c.asked.length+1) (hm:(q,acc.tO)∈L) (u0 u1 u2 u3 u4 u5 : Value)
  (hV:V'=((((((V.setCell ⟨q,0,none⟩ u0).setCell ⟨q,1,none⟩ u1).setCell ⟨q,2,none⟩ u2).setCell ⟨q,3,none⟩ u3).setCell ⟨q,4,none⟩ u4).setCell ⟨q,5,none⟩ u5)) : V'.heap[q]?=some (.cells #[u0,u1,u2,u3,u4,u5] 82 (0,0))∧RGone (p,c) name e b F0 W V':=by
 subst hV hn
 have hs:=set6 (M.at hm) u0 u1 u2 u3 u4 u5
 have M2:=(M.sub (L':=[(q,acc.tO)]) (fun x hx=>by obtain rfl:=List.mem_singleton.1 hx; exact hm)).put (chg_set6 V q u0 u1 u2 u3 u4 u5) hs (by simp)
 exact⟨hs,v,cv,sv,av,M2.ob.it,M2.chg⟩
set_option maxRecDepth 100000 in
set_option maxHeartbeats 4000000 in
theorem racct_c (h:RAt p c name e v b cv sv av n W) (hn:n=c.asked.length+1) (hp:p.Ok) (hlp:p.L.length<1000000) (hK:KOk c.known) (hlk:c.known.length≤900000) (hla:c.asked.length≤1000000) (addr:List UInt8) :
  Calls Tryz.prog 62 #[.pointer (some ⟨b,0,none⟩),.string (str addr)] W fun e1 W'=>e1=.returned (.tuple #[.agg (accC (askP name p c ⟨0,addr,0,1⟩).1.1),.int .i64 (askP name p c ⟨0,addr,0,1⟩).1.2])∧RGone (askP name p c ⟨0,addr,0,1⟩).2 name e b (ftR e v b cv sv av) W W':=by
 have H0:=An.alloc (An.start h.ob) acc.tO
 have hsz:=str_size addr
 by_cases hl : addr.length=20
 ·have hq : askP name p c ⟨0,addr,0,1⟩=askQ name p c ⟨0,addr,0,1⟩:=askP_Q hl
  have LC:=Lib.hid (fun V (M:RAt p c name e v b cv sv av n V)=>rask_c M hn hp hlp hK hlk hla (a:=⟨0,addr,0,1⟩) ⟨⟨by show 0<M64; unfold M64; omega,by show 0<W256; decide,by show -9223372036854775808≤(1:Int)∧(1:Int)≤9223372036854775807; omega⟩,⟨hl,Or.inr ⟨rfl,rfl⟩⟩,rfl⟩)
  rw [show askV ⟨0,addr,0,1⟩=.agg #[.int .u64 0,.string (str addr),.int .u64 0,.int .u64 0,.int .u64 0,.int .u64 0,.int .i64 1] from by simp [lim_zero,askV]] at LC
  rw [hq]
  generalize askQ name p c ⟨0,addr,0,1⟩=res at *
  obtain⟨⟨r9,e9⟩,p9,c9⟩:=res
  unfold AskR at LC
  simp only at LC ⊢
  unfold replyCells at LC
  unfold accC
  have HH:=Lib.hid H0
  have L1:=Lib.hid (LC.out _ H0.ob.it)
  skip
  skip
  clear h hn hp hlp hK hlk hla H0 LC hq
  go_enter Tryz.func62,Tryz.ntmps62
  go_wp2_with fail
  refine L1.out.mono ?_
  rintro e1 V1 ⟨rfl,v1,cv1,sv1,av1,hr,hc⟩
  have M1:=(HH.out.step hr.ob hc).alloc (rRO r9)
  clear HH hr hc L1
  unfold rRO at M1
  go_upto_region 4 with fail
  obtain⟨q6,hq6⟩ : ∃ q,q=V1.heap.size:=⟨_,rfl⟩
  rw [← hq6] at M1 ⊢
  clear hq6
  unfold replyCells at M1
  generalize World.alloc V1 _=V2 at M1 ⊢
  obtain⟨⟨x0,x1,x2,x3,x4,x5,x6,x7,x8,x9,x10⟩,_⟩:=cells11 (M1.at (q:=q6) memS)
  obtain⟨⟨k0,k1,k2,k3,k4,k5⟩,d0,d1,d2,d3,d4,d5⟩:=cells6 (M1.at (q:=W.heap.size) (o:=acc.tO) (memC memS))
  have HM1:=Lib.hid M1
  clear M1
  go_wp2_with fail
  obtain⟨q1,q2⟩:=acc.finR HM1.out rfl (memC memS) _ _ _ _ _ _ rfl
  exact bodyPost_ret (results_cell_slot Tryz.results62 _ _ _ _ _ _ _ _ rfl rfl q1 Tryz.underlying82 rfl (by kernel_rfl)) rfl ⟨rfl,q2⟩
 ·have hq : askP name p c ⟨0,addr,0,1⟩=((ReplyP.zero,1),p,c):=askP_bad hl
  have hli : ¬ (addr.length : Int)=20:=by omega
  rw [hq]
  have HH:=Lib.hid (And.intro H0 hn)
  simp only
  rw [accZ]
  skip
  clear h hn hp hlp hK hlk hla H0 hq hl
  go_enter Tryz.func62,Tryz.ntmps62
  go_wp2_with fail
  exact bodyPost_ret (results_cell_slot Tryz.results62 _ _ _ _ _ _ _ _ rfl rfl (HH.out.1.at (q:=W.heap.size) (o:=acc.tO) memS) Tryz.underlying82 rfl (by kernel_rfl)) rfl ⟨rfl,RGone.start HH.out.1 HH.out.2⟩
theorem val.finR {F0 : Nat→Prop} {V V' : World} {L : List (Nat×Obj)} {q : Nat} (M:An (RAt p c name e v b cv sv av n) (ftR e v b cv sv av) W F0 L V) (hn:n=c.asked.length+1) (hm:(q,val.tO)∈L) (u0 u1 u2 u3 : Value)
  (hV:V'=((((V.setCell ⟨q,0,none⟩ u0).setCell ⟨q,1,none⟩ u1).setCell ⟨q,2,none⟩ u2).setCell ⟨q,3,none⟩ u3)) : V'.heap[q]?=some (.cells #[u0,u1,u2,u3] 61 (0,0))∧RGone (p,c) name e b F0 W V':=by
 subst hV hn
 have hs:=heap_set4 (M.at hm) u0 u1 u2 u3
 have M2:=(M.sub (L':=[(q,val.tO)]) (fun x hx=>by obtain rfl:=List.mem_singleton.1 hx; exact hm)).put (chg_set4 V q u0 u1 u2 u3) hs (by simp)
 exact⟨hs,v,cv,sv,av,M2.ob.it,M2.chg⟩
set_option maxRecDepth 100000 in
set_option maxHeartbeats 4000000 in
theorem rslot_c (h:RAt p c name e v b cv sv av n W) (hn:n=c.asked.length+1) (hp:p.Ok) (hlp:p.L.length<1000000) (hK:KOk c.known) (hlk:c.known.length≤900000) (hla:c.asked.length≤1000000) (addr:List UInt8) (k:Nat) (hk9:k<W256) :
  Calls Tryz.prog 64 #[.pointer (some ⟨b,0,none⟩),.string (str addr),wordV k] W fun e1 W'=>e1=.returned (.tuple #[.agg (valC (askP name p c ⟨0,addr,k,2⟩).1.1),.int .i64 (askP name p c ⟨0,addr,k,2⟩).1.2])∧RGone (askP name p c ⟨0,addr,k,2⟩).2 name e b (ftR e v b cv sv av) W W':=by
 have H0:=An.alloc (An.alloc (An.start h.ob) (wdR k)) val.tO
 rw [alloc_size] at H0
 have hsz:=str_size addr
 by_cases hl : addr.length=20
 ·have hq : askP name p c ⟨0,addr,k,2⟩=askQ name p c ⟨0,addr,k,2⟩:=askP_Q hl
  have LC:=Lib.hid (fun V (M:RAt p c name e v b cv sv av n V)=>rask_c M hn hp hlp hK hlk hla (a:=⟨0,addr,k,2⟩) ⟨⟨by show 0<M64; unfold M64; omega,hk9,by show -9223372036854775808≤(2:Int)∧(2:Int)≤9223372036854775807; omega⟩,⟨hl,Or.inl rfl⟩,rfl⟩)
  rw [show askV ⟨0,addr,k,2⟩=.agg #[.int .u64 0,.string (str addr),.int .u64 (l3 k : Nat),.int .u64 (l2 k : Nat),.int .u64 (l1 k : Nat),.int .u64 (l0 k : Nat),.int .i64 2] from by simp [askV]] at LC
  rw [hq]
  generalize askQ name p c ⟨0,addr,k,2⟩=res at *
  obtain⟨⟨r9,e9⟩,p9,c9⟩:=res
  unfold AskR at LC
  simp only at LC ⊢
  unfold replyCells at LC
  unfold valC
  have HH:=Lib.hid H0
  have L1:=Lib.hid (LC.out _ H0.ob.it)
  obtain⟨⟨y0,y1,y2,y3⟩,_⟩:=cells4 (H0.at (q:=W.heap.size) (o:=wdR k) (memC memS))
  unfold wordV
  clear h hn hp hlp hK hlk hla H0 LC hq hk9
  go_enter Tryz.func64,Tryz.ntmps64
  go_wp2_with fail
  refine L1.out.mono ?_
  rintro e1 V1 ⟨rfl,v1,cv1,sv1,av1,hr,hc⟩
  have M1:=(HH.out.step hr.ob hc).alloc (rRO r9)
  clear HH hr hc L1
  unfold rRO at M1
  go_upto_region 4 with fail
  obtain⟨q6,hq6⟩ : ∃ q,q=V1.heap.size:=⟨_,rfl⟩
  rw [← hq6] at M1 ⊢
  clear hq6
  unfold replyCells at M1
  generalize World.alloc V1 _=V2 at M1 ⊢
  obtain⟨⟨x0,x1,x2,x3,x4,x5,x6,x7,x8,x9,x10⟩,_⟩:=cells11 (M1.at (q:=q6) memS)
  obtain⟨⟨k0,k1,k2,k3⟩,d0,d1,d2,d3⟩:=cells4 (M1.at (q:=(W.heap.size+1)) (o:=val.tO) (memC memS))
  have HM1:=Lib.hid M1
  clear M1
  go_wp2_with fail
  obtain⟨q1,q2⟩:=val.finR HM1.out rfl (memC memS) _ _ _ _ rfl
  exact bodyPost_ret (results_cell_slot Tryz.results64 _ _ _ _ _ _ _ _ rfl rfl q1 Tryz.underlying61 rfl (by kernel_rfl)) rfl ⟨rfl,q2⟩
 ·have hq : askP name p c ⟨0,addr,k,2⟩=((ReplyP.zero,1),p,c):=askP_bad hl
  have hli : ¬ (addr.length : Int)=20:=by omega
  rw [hq]
  have HH:=Lib.hid (And.intro H0 hn)
  simp only
  rw [valZ]
  unfold wordV
  clear h hn hp hlp hK hlk hla H0 hq hl hk9
  go_enter Tryz.func64,Tryz.ntmps64
  go_wp2_with fail
  exact bodyPost_ret (results_cell_slot Tryz.results64 _ _ _ _ _ _ _ _ rfl rfl (HH.out.1.at (q:=(W.heap.size+1)) (o:=val.tO) memS) Tryz.underlying61 rfl (by kernel_rfl)) rfl ⟨rfl,RGone.start HH.out.1 HH.out.2⟩
end
end Go.Proofs.YtekoaheiapddiaaGreat.Dz
end
section
namespace Go.Proofs.YtekoaheiapddiaaGreat.Dz
open Go.RowKit
theorem frs_len8 (l:List Nm) : l.length*8≤(frs l).length:=by
 induction l with
 | nil=>simp [frs]
 | cons s t ih=>simp only [frs,List.length_cons,List.length_append,fr_len]; omega
theorem fs_len8 {s : Nm} {l : List Nm} {r : Nm} (h:Fs s l r) (hs:s.length≤1048576) : l.length≤131072:=by
 have h1:=frs_len8 l
 have h2 : (frs l).length≤s.length:=by have:=congrArg List.length h.1; rw [List.length_append] at this; omega
 omega
theorem known_step {l : List Nm} {k : Nat} {s : Nm} (h:l[k]?=some s) : knownOf (l.take (k+1))=knowT (knownOf (l.take k)) s:=by
 unfold knownOf
 rw [List.take_add_one,h,List.foldl_append]
 rfl
theorem know_len (K:KL) (s:Nm) : (knowT K s).length≤K.length+1:=by
 unfold knowT
 cases factV s with
 | none=>exact Nat.le_succ _
 | some p=>exact putK_len _ _ _
theorem known_len (l:List Nm) : (knownOf l).length≤l.length:=by
 have : ∀ (l:List Nm) (K:KL),(l.foldl knowT K).length≤K.length+l.length:=fun l=>by
  induction l with
  | nil=>exact fun K=>Nat.le_refl _
  | cons s t ih=>intro K; have h1:=ih (knowT K s); have h2:=know_len K s; simp only [List.foldl_cons,List.length_cons]; omega
 have h:=this l []
 simpa [knownOf] using h
theorem know_none {K : KL} {s : Nm} (h:factV s=none) : knowT K s=K:=by unfold knowT; rw [h]
theorem know_some {K : KL} {s : Nm} {a : AskP} {r : ReplyP} (h:factV s=some (a,r)) : knowT K s=putK K a r:=by unfold knowT; rw [h]
theorem fact_err {s : Nm} {d : It×Nat} (h:decV s=d) (h0:d.2≠0) : factV s=none:=by unfold factV; rw [h,if_pos h0]
theorem fact_text {s t : Nm} (h:decV s=(.text t,0)) : factV s=none:=by unfold factV; rw [h]; simp [It.inner,txtsF]
theorem fact_len {s : Nm} {f : Fo} (h:decV s=(.list f,0)) (h2:f.len≠2) : factV s=none:=by
 unfold factV
 rw [h]
 simp only [ne_eq,not_true_eq_false,if_false,It.inner]
 have:=txtsF_len f
 split
 ·rename_i heq; rw [heq] at this; exact absurd this.symm h2
 ·rfl
theorem fact_two {s t1 t2 : Nm} {f : Fo} (h:decV s=(.list f,0)) (hf:txtsF f=[t1,t2]) : factV s=pairV t1 t2:=by
 unfold factV
 rw [h]
 simp only [ne_eq,not_true_eq_false,if_false,It.inner,hf]
theorem pair_nil1 (t:Nm) : pairV [] t=none:=by unfold pairV; rw [getA_nil]
theorem pair_nil2 (t:Nm) : pairV t []=none:=by
 unfold pairV
 cases getA t with
 | none=>rfl
 | some a=>simp only; rw [getR_nil]
theorem pair_is {t1 t2 : Nm} {o : Option AskP} {o2 : Option ReplyP} (h1:AskIs t1 o) (h2:ReplyIs (o.getD AskP.zero).kind t2 o2) :
  pairV t1 t2=if o.isSome=true∧o2.isSome=true∧(o.getD AskP.zero).id=0∧(o2.getD ReplyP.zero).id=0 then some (o.getD AskP.zero,o2.getD ReplyP.zero) else none:=by
 have e1:=(getA_is t1).one h1
 unfold pairV
 rw [e1]
 cases o with
 | none=>simp
 | some a=>
  have e2:=(getR_is a.kind t2).one h2
  simp only [Option.getD_some] at *
  rw [e2]
  cases o2 with
  | none=>simp
  | some r=>simp
theorem An.more {I : World→Prop} {ft F0 : Nat→Prop} {W V V' : World} {L : List (Nat×Obj)} (h:An I ft W F0 L V) (hb:Below V.heap.size V V') {g : Nat} {o : Obj} (hg:V.heap.size≤g) (ho:V'.heap[g]?=some o) : An I ft W F0 ((g,o) :: L) V':=by
 have h1:=h.call hb
 refine⟨h1.ob,h1.chg,fun x hx=>?_⟩
 rcases List.mem_cons.1 hx with rfl | hx
 ·exact⟨ho,Nat.le_trans h.chg.size hg,fun hk=>by have:=h.ob.lt _ hk; simp only at hg this; omega⟩
 ·exact h1.box x hx
theorem An.add {I : World→Prop} {ft F0 : Nat→Prop} {W V : World} {L : List (Nat×Obj)} (h:An I ft W F0 L V) {g : Nat} {o : Obj} (ho:V.heap[g]?=some o) (hg:W.heap.size≤g) (hn:¬ ft g) : An I ft W F0 ((g,o) :: L) V:=
 ⟨h.ob,h.chg,fun x hx=>by
   rcases List.mem_cons.1 hx with rfl | hx
   · exact⟨ho,hg,hn⟩
   · exact h.box x hx⟩
theorem itv_shape {S : Nat→Prop} {it : It} {x : Value} {V : World} (h:ItV S it x V) : ∃ b1 t1 a1 m1 c1,x=.agg #[.bool b1,.string t1,.slice a1 m1 c1]:=by
 cases it with
 | text s=>exact⟨_,_,_,_,_,h⟩
 | list f=>
  obtain⟨u,rfl,h⟩:=h
  rcases h with ⟨rfl,_⟩ | ⟨g,o,c,rfl,_⟩
  ·exact⟨_,_,_,_,_,rfl⟩
  ·exact⟨_,_,_,_,_,rfl⟩
theorem two_cells {S : Nat→Prop} {f : Fo} {g o : Nat} {V : World} (h:f.At S g o V) (h2:f.len=2) : ∃ (l0:Bool) (s0:Nm) (l1:Bool) (s1:Nm),V.cell? ⟨g,o,none⟩=some (.bool l0)∧V.cell? ⟨g,o+1,none⟩=some (.string (str s0))∧V.cell? ⟨g,o+3,none⟩=some (.bool l1)∧V.cell? ⟨g,o+4,none⟩=some (.string (str s1)) ∧
  txtsF f=[s0,s1]∧(l0=true→s0=[])∧(l1=true→s1=[]):=by
 have one : ∀ {f : Fo} {o : Nat},f.At S g o V→f.len=1→∃ (l1:Bool) (s1:Nm),V.cell? ⟨g,o,none⟩=some (.bool l1)∧V.cell? ⟨g,o+1,none⟩=some (.string (str s1))∧txtsF f=[s1]∧(l1=true→s1=[]):=fun {f o} h h1=>by
  cases f with
  | nil=>cases h1
  | text s r=>
   have hr : r=.nil:=by
    cases r with
    | nil=>rfl
    | text _ _=>simp only [Fo.len] at h1; omega
    | list _ _=>simp only [Fo.len] at h1; omega
   subst hr
   obtain⟨⟨q1,q2,_⟩,_⟩:=h
   exact⟨false,s,q1,q2,rfl,fun e9=>by cases e9⟩
  | list i r=>
   have hr : r=.nil:=by
    cases r with
    | nil=>rfl
    | text _ _=>simp only [Fo.len] at h1; omega
    | list _ _=>simp only [Fo.len] at h1; omega
   subst hr
   obtain⟨⟨q1,q2,_⟩,_⟩:=h
   exact⟨true,[],q1,q2,rfl,fun _=>rfl⟩
 cases f with
 | nil=>cases h2
 | text s r=>
  obtain⟨⟨q1,q2,_⟩,h3⟩:=h
  obtain⟨l1,s1,k1,k2,k3,k4⟩:=one h3 (by simp only [Fo.len] at h2; omega)
  exact⟨false,s,l1,s1,q1,q2,k1,k2,by simp [txtsF,k3],fun e9=>(by cases e9),k4⟩
 | list i r=>
  obtain⟨⟨q1,q2,_⟩,h3⟩:=h
  obtain⟨l1,s1,k1,k2,k3,k4⟩:=one h3 (by simp only [Fo.len] at h2; omega)
  exact⟨true,[],l1,s1,q1,q2,k1,k2,by simp [txtsF,k3],fun _=>rfl,k4⟩
section
variable {p : Pd} {name : Nm} {e : Nat} {v : Value} {W : World}
def NewR (p:Pd) (l:List Nm) (name:Nm) (e:Nat) (v:Value) (W:World) (e1:Ending) (W' : World) : Prop:=
 ∃ b cv,e1=.returned (.pointer (some ⟨b,0,none⟩))∧RAt p ⟨knownOf l,[],[]⟩ name e v b cv (.slice none 0 0) (.slice none 0 0) 1 W'∧Chg (Rk.ft e v) (ftR e v b cv (.slice none 0 0) (.slice none 0 0)) W W'
theorem RAt.fresh (h:Rk p e v 0 W) : RAt p ⟨[],[],[]⟩ name e v W.heap.size (.slice none 0 0) (.slice none 0 0) (.slice none 0 0) 1 (W.alloc (.cells (cellsR e name (.slice none 0 0) (.slice none 0 0) (.slice none 0 0) 1) 43)) ∧
  Chg (Rk.ft e v) (ftR e v W.heap.size (.slice none 0 0) (.slice none 0 0) (.slice none 0 0)) W (W.alloc (.cells (cellsR e name (.slice none 0 0) (.slice none 0 0) (.slice none 0 0) 1) 43)):=by
 have hb : Below W.heap.size W (W.alloc (.cells (cellsR e name (.slice none 0 0) (.slice none 0 0) (.slice none 0 0) 1) 43)):=(Below.refl _ _).alloc (Nat.le_refl _) _
 refine⟨⟨h.below hb,heap_alloc_new _ _,World.ownsRow_nil _ _ _ _,Of.nil _ _ _,World.ownsRow_nil _ _ _ _,fun k hk=>by cases hk⟩,⟨hb.os,hb.tape,hb.output,hb.size,fun k hk _=>hb.block k hk,fun k hk=>?_⟩⟩
 rcases hk with hk | rfl | hk | hk | hk
 ·exact Or.inl hk
 ·exact Or.inr (Nat.le_refl _)
 ·cases hk
 ·cases hk
 ·cases hk
set_option maxRecDepth 100000 in
set_option maxHeartbeats 8000000 in
theorem rnew_c (h:Rk p e v 0 W) (hp:p.Ok) {l : List Nm} {r : Nm} (hF:Fs (bsE (getE p.L name)) l r) :
  Calls Tryz.prog 17 #[.pointer (some ⟨e,0,none⟩),.string (str name)] W fun e1 W'=>NewR p l name e v W e1 W':=by
 have hll : l.length≤131072:=fs_len8 hF (bs_le hp name)
 have hf:=RAt.fresh (name:=name) h
 have HAL:=Lib.hid (pall_c hf.1.rk hp name hF)
 have M0:=(An.start (I:=Rk p e v 0) (ft:=Rk.ft e v) ⟨h,fun k hk=>hk.elim (fun e9=>by rw [e9]; exact lt_of h.cell) (fun e9=>(h.row.lt k e9).2),fun V hV=>h.kept (hV _ (Or.inl rfl)) (fun k hk=>hV k (Or.inr hk))⟩).step hf.1.ob hf.2
 have HM0:=Lib.hid M0
 clear h hp hF hf M0
 go_enter Tryz.func17,Tryz.ntmps17
 go_wp2_with fail
 refine HAL.out.mono ?_
 rintro e1 W1 ⟨lv,rfl,ho,hb⟩
 obtain⟨la,lc,hlv⟩:=ho.form
 obtain⟨Lx,M1,hLx⟩ : ∃ Lx,An (RAt p ⟨[],[],[]⟩ name e v W.heap.size (.slice none 0 0) (.slice none 0 0) (.slice none 0 0) 1) (ftR e v W.heap.size (.slice none 0 0) (.slice none 0 0) (.slice none 0 0)) W (Rk.ft e v) Lx W1 ∧
   ∀ (k:Nat) (s:Nm),l[k]?=some s→∃ g,la=some ⟨g,0,none⟩∧l.length≤lc∧∀ V : World,(∀ x∈Lx,V.heap[x.1]?=some x.2)→V.cell? ⟨g,k,none⟩=some (.string (str s)):=by
  rcases ho.2 with ⟨_,h0⟩ | ⟨g,cap,cur,hv,hg0,hg,hcap,_⟩
  ·exact⟨[],HM0.out.call hb,fun k s hk=>by have:=(List.getElem?_eq_some_iff.1 hk).1; omega⟩
  ·rw [hlv] at hv
   have hla : la=some ⟨g,0,none⟩∧lc=cap:=by injection hv with e1 _ e3; exact⟨e1,e3⟩
   refine⟨[(g,.cells cur 9 (0,0))],HM0.out.more hb hg0 hg,fun k s hk=>⟨g,hla.1,by rw [hla.2]; exact hcap,fun V hV=>?_⟩⟩
   have h1 : (l.map encS)[k]?=some (.string (str s)):=by rw [List.getElem?_map,hk]; rfl
   have h2:=ho.cells (g:=g) (by rw [hlv,hla.1]; rfl) k _ h1
   have e0 : (⟨g,0,none⟩ : Addr).add k=⟨g,k,none⟩:=by unfold Addr.add; split <;> simp_all
   rw [e0] at h2
   rw [← h2]
   exact World.cell?_of_block (a:=⟨g,k,none⟩) ((hV _ memS).trans hg.symm)
 subst hlv
 have HLX:=Lib.hid hLx
 have HM1:=Lib.hid M1
 clear ho hb hLx M1 HM0 HAL
 go_wp2_with fail
 go_loopw [7] (fun i wr=>∃ (k:Nat) (cv:Value),i=.int .i64 k∧k≤l.length∧An (RAt p ⟨knownOf (l.take k),[],[]⟩ name e v W.heap.size cv (.slice none 0 0) (.slice none 0 0) 1) (ftR e v W.heap.size cv (.slice none 0 0) (.slice none 0 0)) W (Rk.ft e v) Lx wr) (fun i _=>l.length-(intOf i).toNat)
 case atStart=>exact⟨0,_,rfl,by omega,HM1.out⟩
 case round=>
  clear HM1
  obtain⟨k,cv,rfl,hk,M⟩:=hrel
  by_cases hlt : k<l.length
  ·obtain⟨s,hs⟩ : ∃ s,l[k]?=some s:=⟨_,List.getElem?_eq_getElem hlt⟩
   obtain⟨g,rfl,hcap,hcell⟩:=HLX.out k s hs
   have hc0:=hcell wr (fun x hx=>(M.box x hx).1)
   have hlti : (k:Int)<(l.length : Int):=by omega
   have hk0 : (0:Int)≤(k:Int):=by omega
   have hw : IntKind.i64.wrap ((k:Int)+1)=(k:Int)+1:=IntWalk.i64_in _ (by omega)
   obtain⟨K,hK⟩ : ∃ K,K=knownOf (l.take k):=⟨_,rfl⟩
   rw [← hK] at M
   have hKk : KOk K:=by rw [hK]; exact kok_known _
   have hKl : K.length≤131072:=by have:=known_len (l.take k); rw [List.length_take] at this; rw [hK]; omega
   have HST:=Lib.hid (show knownOf (l.take (k+1))=knowT K s from by rw [known_step hs,hK])
   have HK:=Lib.hid (And.intro hKk (And.intro hKl hlt))
   have HM:=Lib.hid M
   clear M hK hKk hKl hlt hs hcell hk
   go_wp2_with fail
   refine (rdecode_n s _).mono ?_
   rintro e1 V1 ⟨x,rfl,hx,hb⟩
   generalize hd : decV s=d at *
   obtain⟨it,er⟩:=d
   simp only at hx ⊢
   obtain⟨b1,t1,a1,m1,c1,hxe⟩:=itv_shape hx
   rw [hxe] at hx ⊢
   clear hxe
   have M1:=HM.out.call hb
   have hsz:=hb.size
   have M2:=M1.alloc (.cells #[.bool b1,.string t1,.slice a1 m1 c1] 125 (0,0))
   have hb2 : Below V1.heap.size V1 (V1.alloc (.cells #[.bool b1,.string t1,.slice a1 m1 c1] 125)):=(Below.refl _ _).alloc (Nat.le_refl _) _
   go_upto_region 7 with fail
   obtain⟨q8,hq8⟩ : ∃ q,q=V1.heap.size:=⟨_,rfl⟩
   rw [← hq8] at M2 ⊢
   generalize World.alloc V1 _=V2 at M2 hb2 ⊢
   obtain⟨⟨i0,i1,i2⟩,_⟩:=cells3 (M2.at (q:=q8) memS)
   have HM2:=Lib.hid M2
   have HB:=Lib.hid (And.intro hb (And.intro hb2 hq8))
   have HD:=Lib.hid hd
   clear M1 M2 hb hb2 hq8 hc0 hsz
   by_cases h0 : er=0
   ·subst h0
    cases it with
    | text tx=>
     obtain⟨rfl,rfl,rfl,rfl,rfl⟩ : b1=false∧t1=str tx∧a1=none∧m1=0∧c1=0:=by
      have hx' : Value.agg #[.bool b1,.string t1,.slice a1 m1 c1]=.agg #[.bool false,.string (str tx),.slice none 0 0]:=hx
      simpa using hx'
     clear hx
     go_wp2_with fail
     exact⟨⟨k+1,cv,by go_num,by have:=HK.out.2.2; omega,by rw [HST.out,know_none (fact_text HD.out)]; exact HM2.out.sub (fun x hx=>List.mem_cons_of_mem _ hx)⟩,by have:=HK.out.2.2; simp [intOf]; omega⟩
    | list f=>
     obtain⟨u,hu,hsl⟩:=hx
     obtain⟨rfl,rfl,rfl⟩ : b1=true∧t1=⟨#[]⟩∧u=.slice a1 m1 c1:=by
      have hx' : Value.agg #[.bool b1,.string t1,.slice a1 m1 c1]=.agg #[.bool true,.string ⟨#[]⟩,u]:=hu
      simp only [Value.agg.injEq,Array.mk.injEq,List.cons.injEq,Value.bool.injEq,Value.string.injEq,and_true] at hx'
      exact⟨hx'.1,hx'.2.1,hx'.2.2.symm⟩
     clear hu
     have hm1 : m1=f.len:=by
      rcases hsl with ⟨h9,rfl⟩ | ⟨g9,o9,c9,h9,_⟩
      ·injection h9
      ·injection h9
     by_cases h2 : f.len=2
     ·rcases hsl with ⟨_,rfl⟩ | ⟨g2,o2,c2,h9,hS,hcp,hAt⟩
      ·cases h2
      obtain⟨rfl,rfl⟩ : a1=some ⟨g2,o2,none⟩∧c1=c2:=by injection h9 with e1 _ e3; exact⟨e1,e3⟩
      obtain⟨l0',s0,l1',s1,q0,q1,q3,q4,htx,hn0,hn1⟩:=two_cells hAt h2
      obtain⟨og,hog⟩ : ∃ og,V1.heap[g2]?=some og:=⟨V1.heap[g2]'hS.2,Array.getElem?_eq_getElem hS.2⟩
      have hk2:=HB.out.2.1.block g2 hS.2
      have M3:=HM2.out.add (hk2.trans hog) (Nat.le_trans HM.out.chg.size hS.1) (fun hf=>by have:=HM.out.ob.lt _ hf; have:=hS.1; omega)
      have q0:=(World.cell?_of_block (a:=⟨g2,o2,none⟩) hk2).trans q0
      have q1:=(World.cell?_of_block (a:=⟨g2,o2+1,none⟩) hk2).trans q1
      have q3:=(World.cell?_of_block (a:=⟨g2,o2+3,none⟩) hk2).trans q3
      have q4:=(World.cell?_of_block (a:=⟨g2,o2+4,none⟩) hk2).trans q4
      obtain rfl : m1=2:=by omega
      have hcp2 : 2≤c1:=by omega
      have HFT:=Lib.hid (And.intro (fact_two HD.out htx) (And.intro hn0 hn1))
      have HOG:=Lib.hid (And.intro (hk2.trans hog) q4)
      have HM3:=Lib.hid M3
      clear hAt hS h9 hm1 h2 hcp htx hn0 hn1 hog hk2 M3 HM2
      cases l0' with
      | true=>
       go_wp2_with fail
       exact⟨⟨k+1,cv,by go_num,by have:=HK.out.2.2; omega,by rw [HST.out,know_none (by rw [HFT.out.1,HFT.out.2.1 rfl,pair_nil1])]; exact HM3.out.sub (fun x hx=>memC (List.mem_cons_of_mem _ hx))⟩,by have:=HK.out.2.2; simp [intOf]; omega⟩
      | false=>
       cases l1' with
       | true=>
        go_wp2_with fail
        exact⟨⟨k+1,cv,by go_num,by have:=HK.out.2.2; omega,by rw [HST.out,know_none (by rw [HFT.out.1,HFT.out.2.2 rfl,pair_nil2])]; exact HM3.out.sub (fun x hx=>memC (List.mem_cons_of_mem _ hx))⟩,by have:=HK.out.2.2; simp [intOf]; omega⟩
       | false=>
        go_wp2_with fail
        refine (rgetAsk_c s0 _).mono ?_
        rintro e1 V3 ⟨oa,hoa,rfl,hb⟩
        rw [askO_eq]
        obtain⟨aa,haa⟩ : ∃ aa,aa=oa.getD AskP.zero:=⟨_,rfl⟩
        rw [← haa]
        have HOA:=Lib.hid (And.intro hoa haa)
        have M5:=(HM3.out.call hb).alloc (rAO aa)
        have hL5:=(HM3.out.call hb).ne
        unfold askV
        clear hoa haa HM3 hb q0 q1 q3 q4 i0 i1 i2
        go_upto_region 9 with fail
        obtain⟨q10,hq10⟩ : ∃ q,q=V3.heap.size:=⟨_,rfl⟩
        unfold rAO askCells at M5
        rw [← hq10] at M5 hL5 ⊢
        generalize World.alloc V3 _=V4 at M5 ⊢
        replace M5 : (An (RAt p ⟨K,[],[]⟩ name e v W.heap.size cv (.slice none 0 0) (.slice none 0 0) 1) (ftR e v W.heap.size cv (.slice none 0 0) (.slice none 0 0)) W (Rk.ft e v) ((q10,rAO aa) :: (g2,og) :: (q8,.cells #[.bool true,.string ⟨#[]⟩,.slice (some ⟨g2,o2,none⟩) 2 c1] 125 (0,0)) :: Lx) V4):=M5
        have HM5:=Lib.hid M5
        clear M5 hq10 hL5
        have HS0:=Lib.hid (fun V L (M:An (RAt p ⟨K,[],[]⟩ name e v W.heap.size cv (.slice none 0 0) (.slice none 0 0) 1) (ftR e v W.heap.size cv (.slice none 0 0) (.slice none 0 0)) W (Rk.ft e v) L V) (h10:(q10,rAO aa)∈L) (h8:(q8,.cells #[.bool true,.string ⟨#[]⟩,.slice (some ⟨g2,o2,none⟩) 2 c1] 125 (0,0))∈L) (h2:(g2,og)∈L)=>And.intro (M.at h10) (And.intro (M.at h8) (show V.cell? ⟨g2,o2+4,none⟩=some (.string (str s1)) from (World.cell?_of_block (a:=⟨g2,o2+4,none⟩) ((M.at h2).trans HOG.out.1.symm)).trans HOG.out.2)))
        have GR:=Lib.hid (fun V=>rgetReply_c aa.kind s1 V)
        go_cut [12,13] from 21 to 100 (fun pp gg wx=>∃ q12 o9 rr,ReplyIs aa.kind s1 o9∧rr=o9.getD ReplyP.zero∧pp=.pointer (some ⟨q12,0,none⟩)∧gg=.bool o9.isSome∧(∀ x∈((q10,rAO aa) :: (g2,og) :: (q8,.cells #[.bool true,.string ⟨#[]⟩,.slice (some ⟨g2,o2,none⟩) 2 c1] 125 (0,0)) :: Lx),x.1≠q12)∧An (RAt p ⟨K,[],[]⟩ name e v W.heap.size cv (.slice none 0 0) (.slice none 0 0) 1) (ftR e v W.heap.size cv (.slice none 0 0) (.slice none 0 0)) W (Rk.ft e v) ((q12,rRO rr) :: ((q10,rAO aa) :: (g2,og) :: (q8,.cells #[.bool true,.string ⟨#[]⟩,.slice (some ⟨g2,o2,none⟩) 2 c1] 125 (0,0)) :: Lx)) wx)
        case first=>
         have MD:=HM5.out.call (Below.refl _ _).drew
         have HS:=Lib.hid (fun (V:World) (hV:V.heap[q10]?=some (rAO aa)∧V.heap[q8]?=some (.cells #[.bool true,.string ⟨#[]⟩,.slice (some ⟨g2,o2,none⟩) 2 c1] 125 (0,0))∧V.cell? ⟨g2,o2+4,none⟩=some (.string (str s1)))=>And.intro (show V.cell? ⟨q10,6,none⟩=some (.int .i64 aa.kind) from cell_of hV.1 6) (And.intro (show V.cell? ⟨q8,2,none⟩=some (.slice (some ⟨g2,o2,none⟩) 2 c1) from cell_of hV.2.1 2) hV.2.2))
         have H0:=HS0.out _ _ MD memS (memC (memC memS)) (memC memS)
         refine Drawn.start (fun V=>V.heap[q10]?=some (rAO aa)∧V.heap[q8]?=some (.cells #[.bool true,.string ⟨#[]⟩,.slice (some ⟨g2,o2,none⟩) 2 c1] 125 (0,0))∧V.cell? ⟨g2,o2+4,none⟩=some (.string (str s1))) (fun _=>false) (by kernel_rfl) ?_
         generalize World.drew _=V9 at MD H0 ⊢
         refine Drawn.tk 0 (some 72) (v:=?_) rfl rfl (by kernel_rfl) rfl (fun _ _ _ h=>h) (Or.inl ⟨rfl,?_⟩) H0 ?_
         rotate_left
         ·intro W hW; have hW:=HS.out W hW; go_simp; try with_reducible rfl
         simp only [put_list,List.set]
         refine Drawn.tk 1 (some 73) (v:=?_) rfl rfl (by kernel_rfl) rfl (fun _ _ _ h=>h) (Or.inl ⟨rfl,?_⟩) H0 ?_
         rotate_left
         ·intro W hW; have hW:=HS.out W hW; go_simp; try with_reducible rfl
         simp only [put_list,List.set]
         refine Drawn.tk 2 (some 74) (v:=?_) rfl rfl (by kernel_rfl) rfl (fun _ _ _ h=>h) (Or.inl ⟨rfl,?_⟩) H0 ?_
         rotate_left
         ·intro W hW; have hW:=HS.out W hW; go_simp; try with_reducible rfl
         simp only [put_list,List.set]
         refine Drawn.tk 3 (some 75) (v:=?_) rfl rfl (by kernel_rfl) rfl (fun _ _ _ h=>h) (Or.inl ⟨rfl,?_⟩) H0 ?_
         rotate_left
         ·intro W hW; have hW:=HS.out W hW; go_simp; try with_reducible rfl
         simp only [put_list,List.set]
         refine Drawn.tk 4 (some 76) (v:=?_) rfl rfl (by kernel_rfl) rfl (fun _ _ _ h=>h) (Or.inl ⟨rfl,?_⟩) H0 ?_
         rotate_left
         ·intro W hW; have hW:=HS.out W hW; go_simp; try with_reducible rfl
         simp only [put_list,List.set]
         refine Drawn.tk 5 (some 77) (v:=?_) rfl rfl (by kernel_rfl) rfl (fun _ _ _ h=>h) (Or.inl ⟨rfl,?_⟩) H0 ?_
         rotate_left
         ·intro W hW; have hW:=HS.out W hW; go_simp; try with_reducible rfl
         simp only [put_list,List.set]
         refine Drawn.tk 6 (some 78) (v:=?_) rfl rfl (by kernel_rfl) rfl (fun _ _ _ h=>h) (Or.inl ⟨rfl,?_⟩) H0 ?_
         rotate_left
         ·intro W hW; have hW:=HS.out W hW; go_simp; try with_reducible rfl
         simp only [put_list,List.set]
         refine Drawn.among [7,11] (by kernel_rfl) (by decide) ?_
         intro i hi
         simp only [List.mem_cons,List.not_mem_nil,or_false] at hi
         rcases hi with rfl | rfl
         ·refine⟨_,rfl,rfl,fun K' hK=>?_⟩
          go_simp
          refine (GR.out _).mono ?_
          rintro e1 VA ⟨o9,ho9,rfl,hb⟩
          replace MD:=MD.call hb
          replace H0:=HS0.out _ _ MD memS (memC (memC memS)) (memC memS)
          rw [replyO_eq]
          refine hK _ _ (fun _ _=>H0) ?_
          clear hK K' hb
          obtain⟨rr,hrr⟩ : ∃ rr,rr=o9.getD ReplyP.zero:=⟨_,rfl⟩
          rw [← hrr]
          have HO9:=Lib.hid (And.intro ho9 hrr)
          clear ho9 hrr
          unfold replyV
          try simp only [put_list,List.set]
          refine Drawn.tk 8 (some 71) (v:=?_) rfl rfl (by kernel_rfl) rfl (fun _ _ _ h=>h) (Or.inl ⟨rfl,?_⟩) H0 ?_
          rotate_left
          ·intro W hW; have hW:=HS.out W hW; go_simp; try with_reducible rfl
          simp only [put_list,List.set]
          refine Drawn.tk 9 (some 80) (v:=?_) rfl rfl (by kernel_rfl) rfl (fun _ _ _ h=>h) (Or.inl ⟨rfl,?_⟩) H0 ?_
          rotate_left
          ·intro W hW; have hW:=HS.out W hW; go_simp; try with_reducible rfl
          simp only [put_list,List.set]
          refine Drawn.tk 10 (some 81) (v:=?_) rfl rfl (by kernel_rfl) rfl (fun _ _ _ h=>h) (Or.inl ⟨rfl,?_⟩) H0 ?_
          rotate_left
          ·intro W hW; have hW:=HS.out W hW; go_simp; try with_reducible rfl
          simp only [put_list,List.set]
          refine Drawn.only 11 (by kernel_rfl) rfl rfl (fun K' hK=>?_)
          go_simp
          have HLT:=Lib.hid MD.ne
          replace MD:=MD.alloc (rRO ReplyP.zero)
          unfold rRO at MD
          rw [zeroCells] at MD
          replace H0:=HS0.out _ _ MD (memC memS) (memC (memC (memC memS))) (memC (memC memS))
          refine hK _ _ (fun _ _=>H0) ?_
          clear hK K'
          obtain⟨q9,hq9⟩ : ∃ q,q=VA.heap.size:=⟨_,rfl⟩
          rw [← hq9] at MD HLT ⊢
          clear hq9
          generalize World.alloc VA _=V8 at MD H0 ⊢
          try simp only [put_list,List.set]
          refine Drawn.only 12 (by kernel_rfl) rfl rfl (fun K' hK=>?_)
          have hbq:=MD.at (q:=q9) memS
          obtain⟨⟨g0,g1,g2',g3,g4,g5,g6,g7,g8,g9,g10⟩,e0,e1,e2,e3,e4,e5,e6,e7,e8,e9,e10⟩:=cells11 hbq
          have HBQ:=Lib.hid hbq
          clear hbq
          go_simp
          replace MD:=MD.put (chg_set11 _ q9 (.int .u64 rr.id) (.int .u64 rr.nonce) (.int .u64 (l3 rr.bal : Nat)) (.int .u64 (l2 rr.bal : Nat)) (.int .u64 (l1 rr.bal : Nat)) (.int .u64 (l0 rr.bal : Nat)) (.string (str rr.code)) (.int .u64 (l3 rr.value : Nat)) (.int .u64 (l2 rr.value : Nat)) (.int .u64 (l1 rr.value : Nat)) (.int .u64 (l0 rr.value : Nat))) (o':=rRO rr) (set11 HBQ.out _ _ _ _ _ _ _ _ _ _ _) HLT.out
          refine hK _ _ (fun _ _=>HS0.out _ _ MD (memC memS) (memC (memC (memC memS))) (memC (memC memS))) ?_
          clear hK K' g0 g1 g2' g3 g4 g5 g6 g7 g8 g9 g10 e0 e1 e2 e3 e4 e5 e6 e7 e8 e9 e10 HBQ H0
          generalize World.setCell _ _ _=V7 at MD ⊢
          try simp only [put_list,put_none,List.set]
          have H0:=HS0.out _ _ MD (memC memS) (memC (memC (memC memS))) (memC (memC memS))
          refine Drawn.tk 13 (some 13) (v:=?_) rfl rfl (by kernel_rfl) rfl (fun _ _ _ h=>h) (Or.inl ⟨rfl,?_⟩) H0 ?_
          rotate_left
          ·intro W hW; have hW:=HS.out W hW; go_simp; try with_reducible rfl
          simp only [put_list,List.set]
          refine Drawn.done (by kernel_rfl) ?_ _
          go_wp2_with fail
          go_meet
          case rel=>exact⟨q9,o9,rr,HO9.out.1,HO9.out.2,rfl,rfl,HLT.out,MD⟩
         ·refine⟨_,rfl,rfl,fun K' hK=>?_⟩
          go_simp
          have HLT:=Lib.hid MD.ne
          replace MD:=MD.alloc (rRO ReplyP.zero)
          unfold rRO at MD
          rw [zeroCells] at MD
          replace H0:=HS0.out _ _ MD (memC memS) (memC (memC (memC memS))) (memC (memC memS))
          refine hK _ _ (fun _ _=>H0) ?_
          clear hK K'
          obtain⟨q9,hq9⟩ : ∃ q,q=V9.heap.size:=⟨_,rfl⟩
          rw [← hq9] at MD HLT ⊢
          clear hq9
          generalize World.alloc V9 _=V8 at MD H0 ⊢
          try simp only [put_list,List.set]
          refine Drawn.only 7 (by kernel_rfl) rfl rfl (fun K' hK=>?_)
          go_simp
          refine (GR.out _).mono ?_
          rintro e1 VA ⟨o9,ho9,rfl,hb⟩
          replace MD:=MD.call hb
          replace H0:=HS0.out _ _ MD (memC memS) (memC (memC (memC memS))) (memC (memC memS))
          rw [replyO_eq]
          refine hK _ _ (fun _ _=>H0) ?_
          clear hK K' hb
          obtain⟨rr,hrr⟩ : ∃ rr,rr=o9.getD ReplyP.zero:=⟨_,rfl⟩
          rw [← hrr]
          have HO9:=Lib.hid (And.intro ho9 hrr)
          clear ho9 hrr
          unfold replyV
          try simp only [put_list,List.set]
          refine Drawn.tk 8 (some 71) (v:=?_) rfl rfl (by kernel_rfl) rfl (fun _ _ _ h=>h) (Or.inl ⟨rfl,?_⟩) H0 ?_
          rotate_left
          ·intro W hW; have hW:=HS.out W hW; go_simp; try with_reducible rfl
          simp only [put_list,List.set]
          refine Drawn.tk 9 (some 80) (v:=?_) rfl rfl (by kernel_rfl) rfl (fun _ _ _ h=>h) (Or.inl ⟨rfl,?_⟩) H0 ?_
          rotate_left
          ·intro W hW; have hW:=HS.out W hW; go_simp; try with_reducible rfl
          simp only [put_list,List.set]
          refine Drawn.tk 10 (some 81) (v:=?_) rfl rfl (by kernel_rfl) rfl (fun _ _ _ h=>h) (Or.inl ⟨rfl,?_⟩) H0 ?_
          rotate_left
          ·intro W hW; have hW:=HS.out W hW; go_simp; try with_reducible rfl
          simp only [put_list,List.set]
          refine Drawn.only 12 (by kernel_rfl) rfl rfl (fun K' hK=>?_)
          have hbq:=MD.at (q:=q9) memS
          obtain⟨⟨g0,g1,g2',g3,g4,g5,g6,g7,g8,g9,g10⟩,e0,e1,e2,e3,e4,e5,e6,e7,e8,e9,e10⟩:=cells11 hbq
          have HBQ:=Lib.hid hbq
          clear hbq
          go_simp
          replace MD:=MD.put (chg_set11 _ q9 (.int .u64 rr.id) (.int .u64 rr.nonce) (.int .u64 (l3 rr.bal : Nat)) (.int .u64 (l2 rr.bal : Nat)) (.int .u64 (l1 rr.bal : Nat)) (.int .u64 (l0 rr.bal : Nat)) (.string (str rr.code)) (.int .u64 (l3 rr.value : Nat)) (.int .u64 (l2 rr.value : Nat)) (.int .u64 (l1 rr.value : Nat)) (.int .u64 (l0 rr.value : Nat))) (o':=rRO rr) (set11 HBQ.out _ _ _ _ _ _ _ _ _ _ _) HLT.out
          refine hK _ _ (fun _ _=>HS0.out _ _ MD (memC memS) (memC (memC (memC memS))) (memC (memC memS))) ?_
          clear hK K' g0 g1 g2' g3 g4 g5 g6 g7 g8 g9 g10 e0 e1 e2 e3 e4 e5 e6 e7 e8 e9 e10 HBQ H0
          generalize World.setCell _ _ _=V7 at MD ⊢
          try simp only [put_list,put_none,List.set]
          have H0:=HS0.out _ _ MD (memC memS) (memC (memC (memC memS))) (memC (memC memS))
          refine Drawn.tk 13 (some 13) (v:=?_) rfl rfl (by kernel_rfl) rfl (fun _ _ _ h=>h) (Or.inl ⟨rfl,?_⟩) H0 ?_
          rotate_left
          ·intro W hW; have hW:=HS.out W hW; go_simp; try with_reducible rfl
          simp only [put_list,List.set]
          refine Drawn.done (by kernel_rfl) ?_ _
          go_wp2_with fail
          go_meet
          case rel=>exact⟨q9,o9,rr,HO9.out.1,HO9.out.2,rfl,rfl,HLT.out,MD⟩
        case rest=>
         obtain⟨q12,o9,rr,ho9,hrr,rfl,rfl,hL12,M8⟩:=hcut
         clear GR HS0 HM5 hL12
         have hfact : factV s=if oa.isSome=true∧o9.isSome=true∧aa.id=0∧rr.id=0 then some (aa,rr) else none:=by
          obtain⟨h1,h2⟩:=HOA.out
          rw [h2] at ho9
          rw [HFT.out.1,pair_is h1 ho9,h2,hrr]
         have HFA:=Lib.hid hfact
         obtain⟨⟨y0,y1,y2,y3,y4,y5,y6⟩,_⟩:=cells7 (M8.at (q:=q10) (o:=rAO aa) (memC memS))
         obtain⟨⟨g0,g1,g2',g3,g4,g5,g6,g7,g8,g9,g10⟩,_⟩:=cells11 (M8.at (q:=q12) (o:=rRO rr) memS)
         have HM8:=Lib.hid M8
         clear M8 ho9 hrr hfact
         by_cases h1 : oa.isSome=true
         ·by_cases h2 : o9.isSome=true
          ·by_cases h3 : aa.id=0
           ·by_cases h4 : rr.id=0
            ·have h3i : (aa.id : Int)=0:=by omega
             have h4i : (rr.id : Int)=0:=by omega
             have hfy : factV s=some (aa,rr):=by rw [HFA.out,if_pos ⟨h1,h2,h3,h4⟩]
             have hwf : aa.Wf:=by
              obtain⟨h5,h6⟩:=HOA.out
              cases oa with
              | none=>cases h1
              | some a9=>rw [h6]; exact h5.1
             have LC:=rlearn_c HM8.out.ob.it (fun x hx=>(HK.out.1.key x hx).1.1) rr hwf (by show K.length≤_; have:=HK.out.2.1; omega)
             rw [show (kcells (aa,rr)).toArray=#[.int .u64 (aa.id : Nat),.string (str aa.addr),.int .u64 (l3 aa.slot : Nat),.int .u64 (l2 aa.slot : Nat),.int .u64 (l1 aa.slot : Nat),.int .u64 (l0 aa.slot : Nat),.int .i64 aa.kind,.int .u64 (rr.id : Nat),.int .u64 (rr.nonce : Nat),.int .u64 (l3 rr.bal : Nat),.int .u64 (l2 rr.bal : Nat),.int .u64 (l1 rr.bal : Nat),.int .u64 (l0 rr.bal : Nat),.string (str rr.code),.int .u64 (l3 rr.value : Nat),.int .u64 (l2 rr.value : Nat),.int .u64 (l1 rr.value : Nat),.int .u64 (l0 rr.value : Nat)] from rfl] at LC
             rw [h3i,h4i] at LC
             have HLC:=Lib.hid LC
             have HFY:=Lib.hid hfy
             rw [h1,h2]
             clear LC hfy hwf h3 h4 HFA
             go_wp2_with fail
             refine HLC.out.mono ?_
             rintro e1 V17 ⟨rfl,cv9,hr9,hch9⟩
             have M17:=HM8.out.step hr9.ob hch9
             have HM17:=Lib.hid M17
             clear HLC HM8 hr9 hch9 M17 y0 y1 y2 y3 y4 y5 y6 g0 g1 g2' g3 g4 g5 g6 g7 g8 g9 g10
             go_wp2_with fail
             exact⟨⟨k+1,cv9,by go_num,by have:=HK.out.2.2; omega,by rw [HST.out,know_some HFY.out]; exact HM17.out.sub (fun x hx=>memC (memC (memC (List.mem_cons_of_mem _ hx))))⟩,by have:=HK.out.2.2; simp [intOf]; omega⟩
            ·have h3i : (aa.id : Int)=0:=by omega
             have h4i : ¬ (rr.id : Int)=0:=by omega
             have hfn:=Lib.hid (show factV s=none by rw [HFA.out,if_neg (fun h=>h4 h.2.2.2)])
             rw [h1,h2]
             clear h3 h4 HFA
             go_wp2_with fail
             exact⟨⟨k+1,cv,by go_num,by have:=HK.out.2.2; omega,by rw [HST.out,know_none (hfn.out)]; exact HM8.out.sub (fun x hx=>memC (memC (memC (List.mem_cons_of_mem _ hx))))⟩,by have:=HK.out.2.2; simp [intOf]; omega⟩
           ·have h3i : ¬ (aa.id : Int)=0:=by omega
            have hfn:=Lib.hid (show factV s=none by rw [HFA.out,if_neg (fun h=>h3 h.2.2.1)])
            rw [h1,h2]
            clear h3 HFA
            go_wp2_with fail
            exact⟨⟨k+1,cv,by go_num,by have:=HK.out.2.2; omega,by rw [HST.out,know_none (hfn.out)]; exact HM8.out.sub (fun x hx=>memC (memC (memC (List.mem_cons_of_mem _ hx))))⟩,by have:=HK.out.2.2; simp [intOf]; omega⟩
          ·have hfn:=Lib.hid (show factV s=none by rw [HFA.out,if_neg (fun h=>h2 h.2.1)])
           rw [h1,Bool.eq_false_iff.2 h2]
           clear HFA
           go_wp2_with fail
           exact⟨⟨k+1,cv,by go_num,by have:=HK.out.2.2; omega,by rw [HST.out,know_none (hfn.out)]; exact HM8.out.sub (fun x hx=>memC (memC (memC (List.mem_cons_of_mem _ hx))))⟩,by have:=HK.out.2.2; simp [intOf]; omega⟩
         ·have hfn:=Lib.hid (show factV s=none by rw [HFA.out,if_neg (fun h=>h1 h.1)])
          rw [Bool.eq_false_iff.2 h1]
          clear HFA
          go_wp2_with fail
          exact⟨⟨k+1,cv,by go_num,by have:=HK.out.2.2; omega,by rw [HST.out,know_none (hfn.out)]; exact HM8.out.sub (fun x hx=>memC (memC (memC (List.mem_cons_of_mem _ hx))))⟩,by have:=HK.out.2.2; simp [intOf]; omega⟩
     ·have hmi : ¬ (m1:Int)=2:=by omega
      have HF2:=Lib.hid h2
      clear hsl hm1 h2
      go_wp2_with fail
      exact⟨⟨k+1,cv,by go_num,by have:=HK.out.2.2; omega,by rw [HST.out,know_none (fact_len HD.out HF2.out)]; exact HM2.out.sub (fun x hx=>List.mem_cons_of_mem _ hx)⟩,by have:=HK.out.2.2; simp [intOf]; omega⟩
   ·have hei : ¬ (er:Int)=0:=by omega
    have HE0:=Lib.hid h0
    clear hx h0
    go_wp2_with fail
    exact⟨⟨k+1,cv,by go_num,by have:=HK.out.2.2; omega,by rw [HST.out,know_none (fact_err HD.out HE0.out)]; exact HM2.out.sub (fun x hx=>List.mem_cons_of_mem _ hx)⟩,by have:=HK.out.2.2; simp [intOf]; omega⟩
  ·obtain rfl : k=l.length:=by omega
   have hlti : ¬ ((l.length : Nat) : Int)<(l.length : Int):=by omega
   rw [List.take_length] at M
   have HM:=Lib.hid M
   clear M hk hlt
   go_wp2_with fail
   go_ret
   exact⟨_,_,rfl,HM.out.ob.it,HM.out.chg⟩
end
end Go.Proofs.YtekoaheiapddiaaGreat.Dz
end
section
namespace Go.Proofs.YtekoaheiapddiaaGreat.Dz
open Go.RowKit
structure Tw2 (I:World→Prop) (ft:Nat→Prop) (J:World→Prop) (gt X : Nat→Prop) (V0 V : World) : Prop where
 one : Ob I ft V
 two : Ob J gt V
 ap : ∀ k,ft k→¬ gt k
 os : V.os=V0.os
 tape : V.tape=V0.tape
 output : V.output=V0.output
 ext : ∀ k,X k→k<V.heap.size∧¬ ft k∧¬ gt k∧V.heap[k]?=V0.heap[k]?
section
variable {I I' J J' : World→Prop} {ft ft' gt gt' X Y : Nat→Prop} {V0 V V' : World}
theorem Tw2.call (h:Tw2 I ft J gt X V0 V) (hb:Below V.heap.size V V') : Tw2 I ft J gt X V0 V':=
 ⟨h.one.below hb,h.two.below hb,h.ap,hb.os.trans h.os,hb.tape.trans h.tape,hb.output.trans h.output,fun k hk=>by
   obtain⟨h1,h2,h3,h4⟩:=h.ext k hk
   exact⟨Nat.lt_of_lt_of_le h1 hb.size,h2,h3,(hb.block k h1).trans h4⟩⟩
theorem Tw2.left (h:Tw2 I ft J gt X V0 V) (h1:Ob I' ft' V') (h2:Chg ft ft' V V') : Tw2 I' ft' J gt X V0 V':=by
 refine⟨h1,h.two.chg h2 (fun k hk hf=>h.ap k hf hk),fun k hk hf=>?_,h2.os.trans h.os,h2.tape.trans h.tape,h2.output.trans h.output,fun k hk=>?_⟩
 ·rcases h2.new k hk with h3 | h3
  ·exact h.ap k h3 hf
  ·have:=h.two.lt k hf; omega
 ·obtain⟨k1,k2,k3,k4⟩:=h.ext k hk
  refine⟨Nat.lt_of_lt_of_le k1 h2.size,fun hf=>?_,k3,(h2.block k k1 k2).trans k4⟩
  rcases h2.new k hf with h3 | h3
  ·exact k2 h3
  ·omega
theorem Tw2.right (h:Tw2 I ft J gt X V0 V) (h1:Ob J' gt' V') (h2:Chg gt gt' V V') : Tw2 I ft J' gt' X V0 V':=by
 refine⟨h.one.chg h2 (fun k hk hf=>h.ap k hk hf),h1,fun k hf hk=>?_,h2.os.trans h.os,h2.tape.trans h.tape,h2.output.trans h.output,fun k hk=>?_⟩
 ·rcases h2.new k hk with h3 | h3
  ·exact h.ap k hf h3
  ·have:=h.one.lt k hf; omega
 ·obtain⟨k1,k2,k3,k4⟩:=h.ext k hk
  refine⟨Nat.lt_of_lt_of_le k1 h2.size,k2,fun hf=>?_,(h2.block k k1 k3).trans k4⟩
  rcases h2.new k hf with h3 | h3
  ·exact k3 h3
  ·omega
theorem Tw2.less {U : World} (h:Tw2 I ft J gt X V0 V) (hY:∀ k,Y k→X k) (hU:∀ k,Y k→V0.heap[k]?=U.heap[k]?) (h1:V0.os=U.os) (h2:V0.tape=U.tape) (h3:V0.output=U.output) : Tw2 I ft J gt Y U V:=
 ⟨h.one,h.two,h.ap,h.os.trans h1,h.tape.trans h2,h.output.trans h3,fun k hk=>by
   obtain⟨k1,k2,k3,k4⟩:=h.ext k (hY k hk)
   exact⟨k1,k2,k3,k4.trans (hU k hk)⟩⟩
theorem Tw2.box (h:Tw2 I ft J gt X V0 V) (o:Obj) : Tw2 I ft J gt (fun k=>X k∨k=V.heap.size) (V.alloc o) (V.alloc o):=by
 have h':=h.call ((Below.refl _ _).alloc (Nat.le_refl _) o)
 refine⟨h'.one,h'.two,h'.ap,rfl,rfl,rfl,fun k hk=>?_⟩
 rcases hk with hk | rfl
 ·obtain⟨k1,k2,k3,_⟩:=h'.ext k hk
  exact⟨k1,k2,k3,rfl⟩
 ·exact⟨by simp,fun hf=>by have:=h.one.lt _ hf; omega,fun hf=>by have:=h.two.lt _ hf; omega,rfl⟩
theorem Tw2.at (h:Tw2 I ft J gt X V0 V) {k : Nat} {o : Obj} (hk:X k) (h0:V0.heap[k]?=some o) : V.heap[k]?=some o:=(h.ext k hk).2.2.2.trans h0
end
theorem Bo.ob {p : Pd} {c : Cl} {name : Nm} {d N : Nat} {F : Nat→Prop} {b m : Nat} {sv av : Value} {W : World} (h:Bo p c name d N F b m sv av W) : Ob (Bo p c name d N F b m sv av) (ftB F b m sv av) W:=⟨h,fun _ hk=>h.lt hk,fun _ hV=>h.kept hV⟩
theorem Chg.wide {F F' G G' : Nat→Prop} {W W' : World} (h:Chg F F' W W') (h1:∀ k,F k→G k) (h2:∀ k,G' k→F' k∨G k∨W.heap.size≤k) : Chg G G' W W':=
 ⟨h.os,h.tape,h.output,h.size,fun k hk hn=>h.block k hk fun hf=>hn (h1 k hf),fun k hk=>by
   rcases h2 k hk with h3 | h3
   · exact (h.new k h3).imp (h1 k) id
   · exact h3⟩
def Two (p:Pd) (c:Cl) (X:Nat→Prop) (V0:World) (N d b e b' : Nat) (V:World) : Prop:=
 ∃ F m sv av v cv sv' av',Tw2 (Bo p c nmC d N F b m sv av) (ftB F b m sv av) (RAt p c nmC e v b' cv sv' av' (c.asked.length+1)) (ftR e v b' cv sv' av') X V0 V
structure Fit (M:Nat) (p:Pd) (c:Cl) : Prop where
 asked : c.asked.length≤M
 known : c.known.length≤131072+M
 few : p.L.length<900000
noncomputable def deedP (p:Pd) (c:Cl) (k a s : Nat) (l:List ToldP) : Pd×Cl:=
 if k % 5≤1 then (askP nmC p c ⟨0,addrP a,0,1⟩).2 else if k % 5≤3 then (askP nmC p c ⟨0,addrP a,s % 4,2⟩).2 else (p,{ c with script:=c.script ++ scriptP l })
def DoesR (p:Pd) (c:Cl) (X:Nat→Prop) (V0:World) (N d b e b' : Nat) (e1:Ending) (V:World) : Prop:=e1=.returned (.bool true)∧Two p c X V0 N d b e b' V
end Go.Proofs.YtekoaheiapddiaaGreat.Dz
end
