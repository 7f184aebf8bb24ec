/- Merged: Ge. -/
import Derived.Test.YtekoaheiapddiaaGreatM32
import Derived.Test.YtekoaheiapddiaaGreatM09
import Derived.Test.YtekoaheiapddiaaGreatM23
import Derived.Test.YtekoaheiapddiaaGreatM24
section
namespace Go.Proofs.YtekoaheiapddiaaGreat.Dz
open Go.RowKit
abbrev rAO (a:AskP) : Obj:=.cells (askCells a) 128 (0,0)
abbrev rRO (r:ReplyP) : Obj:=.cells (replyCells r) 131 (0,0)
noncomputable def askQ (name:Nm) (p:Pd) (c:Cl) (a:AskP) : (ReplyP×Int)×Pd×Cl:=match getK c.known a with
 | some r=>((r,0),p,c)
 | none=>learnP name p c a
theorem askQ_known {name : Nm} {p : Pd} {c : Cl} {a : AskP} {r : ReplyP} (h:getK c.known a=some r) : askQ name p c a=((r,0),p,c):=by unfold askQ; rw [h]
theorem askQ_new {name : Nm} {p : Pd} {c : Cl} {a : AskP} (h:getK c.known a=none) : askQ name p c a=learnP name p c a:=by unfold askQ; rw [h]
theorem getK_at {K : KL} {k : Nat} {x : AskP×ReplyP} {a : AskP} (hx:K[k]?=some x) (hxa:x.1=a) (hno:∀ (j:Nat) (y:AskP×ReplyP),j<k→K[j]?=some y→y.1≠a) : getK K a=some x.2:=by
 induction K generalizing k with
 | nil=>simp at hx
 | cons y t ih=>
  cases k with
  | zero=>
   simp only [List.getElem?_cons_zero,Option.some.injEq] at hx
   subst hx
   obtain⟨y1,y2⟩:=y
   simp only [getK]
   rw [if_pos hxa]
  | succ k=>
   simp only [List.getElem?_cons_succ] at hx
   have h1:=hno 0 y (by omega) rfl
   obtain⟨y1,y2⟩:=y
   simp only [getK]
   rw [if_neg h1]
   exact ih hx fun j z hj hz=>hno (j+1) z (by omega) (by simpa using hz)
def RGone (r:Pd×Cl) (name:Nm) (e b : Nat) (F0:Nat→Prop) (W W' : World) : Prop:=
 ∃ v' cv' sv' av',RAt r.1 r.2 name e v' b cv' sv' av' (r.2.asked.length+1) W'∧Chg F0 (ftR e v' b cv' sv' av') W W'
def AskR (res:(ReplyP×Int)×Pd×Cl) (name:Nm) (e b : Nat) (F0:Nat→Prop) (W:World) (e1:Ending) (W' : World) : Prop:=
 e1=.returned (.tuple #[.agg (replyCells res.1.1),.int .i64 res.1.2])∧RGone res.2 name e b F0 W W'
section
variable {p : Pd} {c : Cl} {name : Nm} {e : Nat} {v : Value} {b : Nat} {cv sv av : Value} {n : Nat} {W : World}
theorem Of.first {B : Nat} {ty : TypeId} {u : Value} {t : List Value} {g o m c : Nat} {W : World} (h:Of B ty (u :: t) (.slice (some ⟨g,o,none⟩) m c) W) : W.cell? ⟨g,o,none⟩=some u:=by
 obtain⟨g',o',c',hv,_,h1,_⟩:=h.head
 cases hv
 exact h1
theorem chg_grown {V W' : World} {v v' : Value} (h:V.grownBy W' v.ownBlock) (h3:v'.ownBlock=v.ownBlock∨v'.ownBlock=some V.heap.size) : Chg (fun k=>v.ownBlock=some k) (fun k=>v'.ownBlock=some k) V W':=
 ⟨h.os,h.tape,h.output,h.size,fun k hk hn=>h.block k hk (fun e9=>hn e9.symm),fun k hk=>by
   rcases h3 with e9 | e9
   · exact Or.inl (e9 ▸ hk)
   · exact Or.inr (by rw [e9] at hk; cases hk; exact Nat.le_refl _)⟩
theorem An.answerR {V V' : World} {F0 : Nat→Prop} {L : List (Nat×Obj)} {q : Nat} {r0 r : ReplyP} {k : Int} {res : (ReplyP×Int)×Pd×Cl} (M:An (RAt p c name e v b cv sv av n) (ftR e v b cv sv av) W F0 L V) (hm:(q,rRO r0)∈L) (hn:n=c.asked.length+1) (hres:res=((r,k),p,c))
  (hV:V'=(((((((((((V.setCell ⟨q,0,none⟩ (.int .u64 r.id)).setCell ⟨q,1,none⟩ (.int .u64 r.nonce)).setCell ⟨q,2,none⟩ (.int .u64 (l3 r.bal : Nat))).setCell ⟨q,3,none⟩ (.int .u64 (l2 r.bal : Nat))).setCell ⟨q,4,none⟩ (.int .u64 (l1 r.bal : Nat))).setCell ⟨q,5,none⟩ (.int .u64 (l0 r.bal : Nat))).setCell ⟨q,6,none⟩ (.string (str r.code))).setCell ⟨q,7,none⟩ (.int .u64 (l3 r.value : Nat))).setCell ⟨q,8,none⟩ (.int .u64 (l2 r.value : Nat))).setCell ⟨q,9,none⟩ (.int .u64 (l1 r.value : Nat))).setCell ⟨q,10,none⟩ (.int .u64 (l0 r.value : Nat)))) :
  V'.heap[q]?=some (rRO r)∧AskR res name e b F0 W (.returned (.tuple #[.agg (replyCells r),.int .i64 k])) V':=by
 subst hV hres
 have hs:=set11 (M.at hm) (.int .u64 r.id) (.int .u64 r.nonce) (.int .u64 (l3 r.bal : Nat)) (.int .u64 (l2 r.bal : Nat)) (.int .u64 (l1 r.bal : Nat)) (.int .u64 (l0 r.bal : Nat)) (.string (str r.code)) (.int .u64 (l3 r.value : Nat)) (.int .u64 (l2 r.value : Nat)) (.int .u64 (l1 r.value : Nat)) (.int .u64 (l0 r.value : Nat))
 have M2:=(M.sub (L':=[(q,rRO r0)]) (fun x hx=>by obtain rfl:=List.mem_singleton.1 hx; exact hm)).put (chg_set11 V q (.int .u64 r.id) (.int .u64 r.nonce) (.int .u64 (l3 r.bal : Nat)) (.int .u64 (l2 r.bal : Nat)) (.int .u64 (l1 r.bal : Nat)) (.int .u64 (l0 r.bal : Nat)) (.string (str r.code)) (.int .u64 (l3 r.value : Nat)) (.int .u64 (l2 r.value : Nat)) (.int .u64 (l1 r.value : Nat)) (.int .u64 (l0 r.value : Nat))) hs (by simp)
 refine⟨hs,rfl,v,cv,sv,av,?_,M2.chg⟩
 subst hn
 exact M2.ob.it
theorem An.answerZ {V V' : World} {F0 : Nat→Prop} {L : List (Nat×Obj)} {q : Nat} {r0 : ReplyP} {k : Int} {res : (ReplyP×Int)×Pd×Cl} (M:An (RAt p c name e v b cv sv av n) (ftR e v b cv sv av) W F0 L V) (hm:(q,rRO r0)∈L) (hn:n=c.asked.length+1) (hres:res=((ReplyP.zero,k),p,c))
  (hV:V'=(((((((((((V.setCell ⟨q,0,none⟩ (.int .u64 0)).setCell ⟨q,1,none⟩ (.int .u64 0)).setCell ⟨q,2,none⟩ (.int .u64 0)).setCell ⟨q,3,none⟩ (.int .u64 0)).setCell ⟨q,4,none⟩ (.int .u64 0)).setCell ⟨q,5,none⟩ (.int .u64 0)).setCell ⟨q,6,none⟩ (.string ⟨#[]⟩)).setCell ⟨q,7,none⟩ (.int .u64 0)).setCell ⟨q,8,none⟩ (.int .u64 0)).setCell ⟨q,9,none⟩ (.int .u64 0)).setCell ⟨q,10,none⟩ (.int .u64 0))) :
  V'.heap[q]?=some (rRO ReplyP.zero)∧AskR res name e b F0 W (.returned (.tuple #[.agg (replyCells ReplyP.zero),.int .i64 k])) V':=M.answerR hm hn hres hV
theorem fo2_cel (s t : List UInt8) (W:World) : Cel (fun _=>False) (.text s (.text t .nil)) [.bool false,.string (str s),.slice none 0 0,.bool false,.string (str t),.slice none 0 0] W:=⟨_,rfl,_,rfl,rfl⟩
set_option maxRecDepth 100000 in
set_option maxHeartbeats 8000000 in
theorem rask_c (h:RAt p c name e v b cv sv av n W) (hn:n=c.asked.length+1) (hp:p.Ok) (hlp:p.L.length<1000000) (hK:KOk c.known) (hlk:c.known.length≤900000) (hla:c.asked.length≤1000000) {a : AskP} (ha:a.Key) :
  Calls Tryz.prog 117 #[.pointer (some ⟨b,0,none⟩),askV a] W fun e1 W'=>AskR (askQ name p c a) name e b (ftR e v b cv sv av) W e1 W':=by
 have H0:=An.alloc (An.alloc (An.start h.ob) (rAO a)) (rRO ReplyP.zero)
 rw [alloc_size] at H0
 have HH:=Lib.hid H0
 obtain⟨ca,cc,hcv⟩:=row_form h.cache
 have HK:=Lib.hid (And.intro hK (And.intro ha (And.intro hlk (And.intro hla (And.intro hp (And.intro hlp hn))))))
 generalize hkn : c.known=K at *
 have HKN:=Lib.hid hkn
 have hkl : K.length≤900000:=hlk
 clear hK ha hlk hla hp hlp hn h H0 hkn
 unfold askV
 go_enter Tryz.func117,Tryz.ntmps117
 go_wp2_with fail
 go_loopw [6] (fun i wr=>∃ k : Nat,i=.int .i64 k∧k≤K.length∧(∀ (j:Nat) (x:AskP×ReplyP),j<k→K[j]?=some x→x.1≠a)∧An (RAt p c name e v b cv sv av n) (ftR e v b cv sv av) W (ftR e v b cv sv av) [(W.heap.size+1,rRO ReplyP.zero),(W.heap.size,rAO a)] wr) (fun i _=>K.length-(intOf i).toNat)
 case atStart=>exact⟨0,rfl,by omega,fun j x h=>by omega,HH.out⟩
 case round=>
  clear HH
  obtain⟨k,rfl,hk,hno,M⟩:=hrel
  by_cases hlt : k<K.length
  ·obtain⟨x,hx⟩ : ∃ x,K[k]?=some x:=⟨_,List.getElem?_eq_getElem hlt⟩
   obtain⟨⟨_,_,c2,_⟩,fz⟩:=M.ob.it.reads
   have f2:=fz 2
   obtain⟨⟨y0,y1,y2,y3,y4,y5,y6⟩,_⟩:=cells7 (M.at (q:=W.heap.size) (o:=rAO a) (memC memS))
   obtain⟨g,cap,hcg,hcap,hgl,hfr,hcell⟩:=M.ob.it.known (by rw [HKN.out]; exact hx)
   rw [HKN.out] at hcg hcap
   clear hcv
   subst hcg
   have hlti : (k:Int)<(K.length : Int):=by omega
   have hk0 : (0:Int)≤(k:Int):=by omega
   have hw : IntKind.i64.wrap ((k:Int)+1)=(k:Int)+1:=IntWalk.i64_in _ (by omega)
   obtain⟨⟨x0,x1,x2,x3,x4,x5,x6⟩,_⟩:=cells18 (hcell)
   have EQ:=eq_ask (HK.out.1.key x (List.mem_of_getElem? hx)).1.1 HK.out.2.1.1
   unfold askCells at EQ
   have HM:=Lib.hid M
   have HX:=Lib.hid (And.intro hx (And.intro hno hlt))
   clear M hcell hno hk hlt hx
   by_cases hxa : x.1=a
   ·rw [decide_eq_true hxa] at EQ
    have HXA:=Lib.hid hxa
    clear hxa
    go_wp2_with fail
    go_quiet (fail)
    have M1:=HM.out.call (bel_drewN wr nq)
    clear x0 x1 x2 x3 x4 x5 x6 c2 fz f2 y0 y1 y2 y3 y4 y5 y6 EQ hfr hcap hgl
    generalize wr.drewN nq=V1 at M1 ⊢
    obtain⟨⟨_,_,c2,_⟩,fz⟩:=M1.ob.it.reads
    have f2:=fz 2
    obtain⟨⟨y0,y1,y2,y3,y4,y5,y6⟩,_⟩:=cells7 (M1.at (q:=W.heap.size) (o:=rAO a) (memC memS))
    obtain⟨g',cap',hcg,hcap,hgl,hfr,hcell⟩:=M1.ob.it.known (by rw [HKN.out]; exact HX.out.1)
    obtain⟨rfl,rfl⟩ : g'=g∧cap'=cap:=by injection hcg with e1 _ e3; injection e1 with e1; injection e1 with e1; exact⟨e1.symm,e3.symm⟩
    rw [HKN.out] at hcap
    obtain⟨_,x7,x8,x9,x10,x11,x12,x13,x14,x15,x16,x17⟩:=cells18 hcell
    have hz:=M1.at (q:=W.heap.size+1) (o:=rRO ReplyP.zero) memS
    obtain⟨⟨g0,g1,g2,g3,g4,g5,g6,g7,g8,g9,g10⟩,e0,e1,e2,e3,e4,e5,e6,e7,e8,e9,e10⟩:=cells11 hz
    have HM1:=Lib.hid M1
    clear M1 hcell hcg hz
    have HR:=Lib.hid (fun V' hV'=>An.answerR (k:=0) (r:=x.2) HM1.out memS HK.out.2.2.2.2.2.2 (askQ_known (name:=name) (p:=p) (c:=c) (a:=a) (r:=x.2) (by rw [HKN.out]; exact getK_at HX.out.1 HXA.out HX.out.2.1)) (V':=V') hV')
    go_wp2_with fail
    obtain⟨q1,q2⟩:=HR.out _ rfl
    exact bodyPost_ret (results_cell_slot Tryz.results117 _ _ _ _ _ _ _ _ rfl rfl q1 Tryz.underlying131 rfl (by kernel_rfl)) rfl q2
   ·rw [decide_eq_false hxa] at EQ
    have HXA:=Lib.hid hxa
    clear hxa
    go_wp2_with fail
    go_quiet (fail)
    have M1:=HM.out.call (bel_drewN wr nq)
    clear x0 x1 x2 x3 x4 x5 x6 c2 fz f2 y0 y1 y2 y3 y4 y5 y6 EQ hfr hcap hgl
    generalize wr.drewN nq=V1 at M1 ⊢
    have HM1:=Lib.hid M1
    clear M1 HM
    go_wp2_with fail
    refine⟨⟨k+1,by go_num,by have:=HX.out.2.2; omega,fun j y hj hy=>?_,HM1.out⟩,by have:=HX.out.2.2; simp [intOf]; omega⟩
    rcases Nat.lt_or_ge j k with h1 | h1
    ·exact HX.out.2.1 j y h1 hy
    ·obtain rfl : j=k:=by omega
     rw [HX.out.1] at hy
     cases hy
     exact HXA.out
  ·obtain rfl : k=K.length:=by omega
   have hlti : ¬ ((K.length : Nat) : Int)<(K.length : Int):=by omega
   obtain⟨⟨_,_,c2,_⟩,fz⟩:=M.ob.it.reads
   have f2:=fz 2
   have HX:=Lib.hid (show getK K a=none from getK_none fun y hy=>by
     obtain⟨j,hj,he⟩:=List.getElem_of_mem hy
     exact hno j y hj (by rw [← he]; exact List.getElem?_eq_getElem _))
   have HM:=Lib.hid M
   clear M hno hk hlt
   rw [hcv] at c2
   have HCV:=Lib.hid hcv
   go_wp2_with fail
   clear c2 fz f2 hcv
   go_loopw [7] (fun i wr=>∃ (k:Nat) (c1:Cl) (sv1 av1 : Value) (n1:Nat),i=.int .i64 k∧k≤3∧c.tries a 3=c1.tries a (3-k)∧c1.known=K∧n1=c1.asked.length+1∧n1≤n+k∧An (RAt p c1 name e v b cv sv1 av1 n1) (ftR e v b cv sv1 av1) W (ftR e v b cv sv av) [(W.heap.size+1,rRO ReplyP.zero),(W.heap.size,rAO a)] wr) (fun i _=>3-(intOf i).toNat)
   case atStart=>exact⟨0,c,sv,av,n,rfl,by omega,rfl,HKN.out,HK.out.2.2.2.2.2.2,by omega,HM.out⟩
   case round=>
    clear HM
    obtain⟨k,c1,sv1,av1,n1,rfl,hk,htr,hkn1,hn1,hnk,M⟩:=hrel
    by_cases hlt : k<3
    ·have hlti : (k:Int)<3:=by omega
     have hw : IntKind.i64.wrap ((k:Int)+1)=(k:Int)+1:=IntWalk.i64_in _ (by omega)
     obtain⟨j,hj⟩ : ∃ j,3-k=j+1:=⟨2-k,by omega⟩
     rw [hj] at htr
     have HT:=Lib.hid (And.intro htr (And.intro hkn1 (And.intro hn1 (And.intro hnk (And.intro hlt hj)))))
     have hn9 : n1<2000000:=by have:=HK.out.2.2.2.1; have:=HK.out.2.2.2.2.2.2; omega
     obtain⟨n2,hn2⟩ : ∃ n2,n2=n1+1:=⟨_,rfl⟩
     have w1 : IntKind.u64.wrap ((n1:Int)+1)=(n2:Int):=by rw [IntKind.wrap_u64]; omega
     have HN2:=Lib.hid (And.intro hn2 hn9)
     clear htr hkn1 hn1 hnk hlt hj hk hn2 hn9
     obtain⟨⟨y0,y1,y2,y3,y4,y5,y6⟩,_⟩:=cells7 (M.at (q:=W.heap.size) (o:=rAO a) (memC memS))
     go_upto_region 10 with fail
     have M1:=M.alloc (rAO a)
     have hL1:=M.ne
     obtain⟨q8,hq8⟩ : ∃ q,q=wr.heap.size:=⟨_,rfl⟩
     unfold rAO askCells at M1
     rw [← hq8] at M1 hL1 ⊢
     generalize World.alloc wr _=V1 at M1 ⊢
     have HL1:=Lib.hid hL1
     clear hq8 hL1 M y0 y1 y2 y3 y4 y5 y6
     obtain⟨⟨_,_,_,_,_,c5⟩,fz⟩:=M1.ob.it.reads
     have f5:=fz 5
     have h8:=M1.at (q:=q8) memS
     obtain⟨⟨z0,z1,z2,z3,z4,z5,z6⟩,e0,_⟩:=cells7 h8
     have M2:=M1.put (chg_set (F:=fun k=>k=q8) (F':=fun k=>k=q8) (Chg.refl _ V1) (Or.inl rfl) 0 (.int .u64 (n1:Nat))) (o':=rAO { a with id:=n1 }) (by rw [heap_setCell_same V1 q8 0 _ _ (.int .u64 (n1:Nat)) h8]; rfl) HL1.out
     go_upto_region 11 with fail
     clear M1 h8 z0 z1 z2 z3 z4 z5 z6 e0 c5 fz f5
     generalize World.setCell V1 _ _=V2 at M2 ⊢
     obtain⟨⟨_,_,_,_,_,c5⟩,fz⟩:=M2.ob.it.reads
     have f5:=fz 5
     have hN:=M2.ob.it.newNext n2
     have M3:=M2.step hN.1.ob hN.2
     go_upto_region 12 with fail
     clear M2 hN c5 fz f5
     generalize World.setCell V2 _ _=V3 at M3 ⊢
     obtain⟨⟨z0,z1,z2,z3,z4,z5,z6⟩,_⟩:=cells7 (M3.at (q:=q8) (o:=rAO { a with id:=n1 }) memS)
     have PA:=Lib.hid (rputAsk_c (a:={ a with id:=n1 }) ⟨by have:=HN2.out.2; show n1<M64; unfold M64; omega,HK.out.2.1.1.slot,HK.out.2.1.1.kind⟩ V3)
     rw [putAskV_ok (a:={ a with id:=n1 }) HK.out.2.1.2.1] at PA
     unfold askV at PA
     have HM3:=Lib.hid M3
     clear M3
     go_wp2_with fail
     refine PA.out.mono ?_
     rintro e1 V4 ⟨rfl,hb⟩
     have M4:=HM3.out.call hb
     clear HM3 hb PA z0 z1 z2 z3 z4 z5 z6
     obtain⟨⟨_,_,_,_,c4,_⟩,fz⟩:=M4.ob.it.reads
     have f4:=fz 4
     have hO:=M4.ob.it.ask
     obtain⟨va,vc,rfl⟩:=hO.form
     have hal : c1.asked.length<1000000000:=by have:=HT.out.2.2.1; have:=HN2.out.2; omega
     obtain⟨ln,hln⟩ : ∃ l,l=c1.asked.length:=⟨_,rfl⟩
     have hown : V4.ownsRow 0 9 1 (.slice va c1.asked.length vc) c1.asked.length (c1.asked.map encS):=hO
     have HLN:=Lib.hid hln
     rw [← hln] at M4 c4 hal hown
     obtain⟨en,hen⟩ : ∃ en,en=({ a with id:=n1 } : AskP).enc:=⟨_,rfl⟩
     rw [← hen]
     have HEN:=Lib.hid hen
     have HM4:=Lib.hid (And.intro M4 (And.intro hown hal))
     clear hen fz M4 hO hal hln hown
     go_upto_region 14 with (at_builtin; refine wpList_append_one rfl _ _ 38 9 rfl Tryz.underlying38 _ 16 infoStr rfl (by omega) 0 (.slice va ln vc) ln (c1.asked.map encS) (by rfl) (own_keep HM4.out.2.1 fun k' hk'=>Below.heap_alloc _ _ _ (HM4.out.2.1.lt k' hk').2) V4.heap.size (.string (str en)) rfl (by rfl) (heap_alloc_new _ _) (Nat.zero_le _) HM4.out.2.2 ?_; intro v' W' q1 q2 q3; have q1' : OwnS 0 (c1.asked ++ [en]) v' W':=(by unfold OwnS; rw [List.map_append,List.length_append,← HLN.out]; exact q1); have M5:=HM4.out.1.alloc (.cells #[.string (str en)] 9 (0,0)); have hch:=chg_grown q2 q3; have HNA:=M5.ob.it.newAsked hch q1'; have hbb:=hch.block b (lt_of M5.ob.it.cell) (fun e9=>ty_ne (M5.ob.it.ty.2.2.2.2 b e9) M5.ob.it.ty.2.1 (by decide)); have e2 : W'.cell? ⟨b,4,none⟩=some (.slice va ln vc):=(World.cell?_of_block (a:=⟨b,4,none⟩) hbb).trans (cell_of M5.ob.it.cell 4); have e3:=(World.frozen?_of_block (a:=⟨b,4,none⟩) hbb).trans (free_of M5.ob.it.cell 4); have M6:=M5.step HNA.1.ob HNA.2; have HM6:=Lib.hid M6; obtain⟨a',c9,hf⟩:=q1'.form; clear q1 q1' q2 q3 hch HNA hbb M5 M6; generalize (c1.asked ++ [en]).length=n9 at hf; subst hf)
     generalize hav : Value.slice a' n9 c9=av2 at HM6 ⊢
     have HAV:=Lib.hid hav
     clear hav e2 e3 c4 f4
     generalize World.setCell W' _ _=V6 at HM6 ⊢
     obtain⟨⟨_,_,_,c3,_⟩,fz⟩:=HM6.out.ob.it.reads
     have hO:=HM6.out.ob.it.scr
     cases hs : c1.script with
     | nil=>
      rw [show (({ c1 with asked:=c1.asked ++ [en] } : Cl).script)=[] from hs] at hO
      obtain⟨sa,sc,hsf⟩:=hO.form
      rw [hsf] at c3
      clear fz hO
      have HSN:=Lib.hid hs
      clear hs
      go_wp2_with fail
      obtain⟨h1,h2,h3,h4,h5,h6⟩:=HT.out
      have hst:=(tries_step (a:=a) (c:=c1) (j:=j) (o:=none) (by rw [HSN.out]; exact fun r _ _=>reply_ne a.kind r)).2 (fun r h=>by cases h)
      rw [← h3,← HEN.out,HSN.out] at hst
      refine⟨⟨k+1,⟨c1.known,[],c1.asked ++ [en]⟩,sv1,av2,n2,by go_num,by omega,by rw [show 3-(k+1)=j by omega,h1]; exact hst,h2,by have:=HN2.out.1; simp only [List.length_append,List.length_singleton]; omega,by have:=HN2.out.1; omega,?_⟩,by simp [intOf]; omega⟩
      have M7:=HM6.out.sub (L':=[(W.heap.size+1,rRO ReplyP.zero),(W.heap.size,rAO a)]) (fun x hx=>memC (List.mem_cons_of_mem _ hx))
      rw [show ({ c1 with asked:=c1.asked ++ [en] } : Cl)=⟨c1.known,[],c1.asked ++ [en]⟩ by rw [← HSN.out]] at M7
      exact M7
     | cons s t=>
      rw [show (({ c1 with asked:=c1.asked ++ [en] } : Cl).script)=s :: t from hs,List.map_cons] at hO
      obtain⟨g,o,cap,rfl,hcap,_,_,_,_⟩:=hO.head
      rw [List.length_map] at hcap c3 HM6
      have HSN:=Lib.hid hs
      have M7:=HM6.out.sub (L':=[(q8,rAO { a with id:=n1 }),(W.heap.size+1,rRO ReplyP.zero),(W.heap.size,rAO a)]) (fun x hx=>List.mem_cons_of_mem _ hx)
      rw [show ({ c1 with asked:=c1.asked ++ [en] } : Cl)=⟨c1.known,s :: t,c1.asked ++ [en]⟩ by rw [← hs]] at M7
      obtain⟨cx,hcx⟩ : ∃ cx,cx=(⟨c1.known,s :: t,c1.asked ++ [en]⟩ : Cl):=⟨_,rfl⟩
      have hcs : cx.script=s :: t:=by rw [hcx]
      rw [← hcx] at M7
      have HCX:=Lib.hid (And.intro hcx hcs)
      clear fz hO hs HM6
      have HM6:=Lib.hid M7
      clear M7 hcx hcs
      have HS0:=Lib.hid (fun V L (M:An (RAt p cx name e v b cv (.slice (some ⟨g,o,none⟩) (t.length+1) cap) av2 n2) (ftR e v b cv (.slice (some ⟨g,o,none⟩) (t.length+1) cap) av2) W (ftR e v b cv sv av) L V) (hm:(W.heap.size,rAO a)∈L)=>And.intro M.ob.it.cell (And.intro (M.at hm) (show V.cell? ⟨g,o,none⟩=some (.string (str s)) from Of.first (u:=.string (str s)) (t:=t.map encS) (by have:=M.ob.it.scr; rw [HCX.out.2] at this; exact this))))
      have GR:=Lib.hid (fun V=>rgetReply_c a.kind s V)
      go_upto_region 15 with fail
      clear c3
      go_cut [11,12] from 45 to 150 (fun pp gg wx=>∃ q11 o9 rr,ReplyIs a.kind s o9∧rr=o9.getD ReplyP.zero∧pp=.pointer (some ⟨q11,0,none⟩)∧gg=.bool o9.isSome∧(∀ x∈[(q8,rAO { a with id:=n1 }),(W.heap.size+1,rRO ReplyP.zero),(W.heap.size,rAO a)],x.1≠q11)∧An (RAt p cx name e v b cv (.slice (some ⟨g,o,none⟩) (t.length+1) cap) av2 n2) (ftR e v b cv (.slice (some ⟨g,o,none⟩) (t.length+1) cap) av2) W (ftR e v b cv sv av) ((q11,rRO rr) :: [(q8,rAO { a with id:=n1 }),(W.heap.size+1,rRO ReplyP.zero),(W.heap.size,rAO a)]) wx)
      case first=>
       have MD:=HM6.out.call (Below.refl _ _).drew
       have HS:=Lib.hid (fun (V:World) (hV:V.heap[b]?=some (.cells (cellsR e name cv (.slice (some ⟨g,o,none⟩) (t.length+1) cap) av2 n2) 43 (0,0))∧V.heap[W.heap.size]?=some (rAO a)∧V.cell? ⟨g,o,none⟩=some (.string (str s)))=>And.intro (show V.cell? ⟨b,3,none⟩=some (.slice (some ⟨g,o,none⟩) (t.length+1) cap) from cell_of hV.1 3) (And.intro (show V.cell? ⟨W.heap.size,6,none⟩=some (.int .i64 a.kind) from cell_of hV.2.1 6) hV.2.2))
       have H0:=HS0.out _ _ MD (memC (memC memS))
       refine Drawn.start (fun V=>V.heap[b]?=some (.cells (cellsR e name cv (.slice (some ⟨g,o,none⟩) (t.length+1) cap) av2 n2) 43 (0,0))∧V.heap[W.heap.size]?=some (rAO a)∧V.cell? ⟨g,o,none⟩=some (.string (str s))) (fun _=>false) (by kernel_rfl) ?_
       generalize World.drew _=V9 at MD H0 ⊢
       refine Drawn.tk 0 (some 84) (v:=?_) rfl rfl (by kernel_rfl) rfl (fun _ _ _ h=>h) (Or.inl ⟨rfl,?_⟩) H0 ?_
       rotate_left
       ·intro W hW; have hW:=HS.out W hW; go_simp; try with_reducible rfl
       simp only [put_list,List.set]
       refine Drawn.tk 1 (some 85) (v:=?_) rfl rfl (by kernel_rfl) rfl (fun _ _ _ h=>h) (Or.inl ⟨rfl,?_⟩) H0 ?_
       rotate_left
       ·intro W hW; have hW:=HS.out W hW; go_simp; try with_reducible rfl
       simp only [put_list,List.set]
       refine Drawn.tk 2 (some 86) (v:=?_) rfl rfl (by kernel_rfl) rfl (fun _ _ _ h=>h) (Or.inl ⟨rfl,?_⟩) H0 ?_
       rotate_left
       ·intro W hW; have hW:=HS.out W hW; go_simp; try with_reducible rfl
       simp only [put_list,List.set]
       refine Drawn.tk 3 (some 87) (v:=?_) rfl rfl (by kernel_rfl) rfl (fun _ _ _ h=>h) (Or.inl ⟨rfl,?_⟩) H0 ?_
       rotate_left
       ·intro W hW; have hW:=HS.out W hW; go_simp; try with_reducible rfl
       simp only [put_list,List.set]
       refine Drawn.tk 4 (some 88) (v:=?_) rfl rfl (by kernel_rfl) rfl (fun _ _ _ h=>h) (Or.inl ⟨rfl,?_⟩) H0 ?_
       rotate_left
       ·intro W hW; have hW:=HS.out W hW; go_simp; try with_reducible rfl
       simp only [put_list,List.set]
       refine Drawn.tk 5 (some 89) (v:=?_) rfl rfl (by kernel_rfl) rfl (fun _ _ _ h=>h) (Or.inl ⟨rfl,?_⟩) H0 ?_
       rotate_left
       ·intro W hW; have hW:=HS.out W hW; go_simp; try with_reducible rfl
       simp only [put_list,List.set]
       refine Drawn.tk 6 (some 90) (v:=?_) rfl rfl (by kernel_rfl) rfl (fun _ _ _ h=>h) (Or.inl ⟨rfl,?_⟩) H0 ?_
       rotate_left
       ·intro W hW; have hW:=HS.out W hW; go_simp; try with_reducible rfl
       simp only [put_list,List.set]
       refine Drawn.tk 7 (some 91) (v:=?_) rfl rfl (by kernel_rfl) rfl (fun _ _ _ h=>h) (Or.inl ⟨rfl,?_⟩) H0 ?_
       rotate_left
       ·intro W hW; have hW:=HS.out W hW; go_simp; try with_reducible rfl
       simp only [put_list,List.set]
       refine Drawn.among [8,12] (by kernel_rfl) (by decide) ?_
       intro i hi
       simp only [List.mem_cons,List.not_mem_nil,or_false] at hi
       rcases hi with rfl | rfl
       ·refine⟨_,rfl,rfl,fun K hK=>?_⟩
        go_simp
        refine (GR.out _).mono ?_
        rintro e1 VA ⟨o9,ho9,rfl,hb⟩
        replace MD:=MD.call hb
        replace H0:=HS0.out _ _ MD (memC (memC memS))
        rw [replyO_eq]
        refine hK _ _ (fun _ _=>H0) ?_
        clear hK K hb
        obtain⟨rr,hrr⟩ : ∃ rr,rr=o9.getD ReplyP.zero:=⟨_,rfl⟩
        rw [← hrr]
        have HO9:=Lib.hid (And.intro ho9 hrr)
        clear ho9 hrr
        unfold replyV
        try simp only [put_list,List.set]
        refine Drawn.tk 9 (some 83) (v:=?_) rfl rfl (by kernel_rfl) rfl (fun _ _ _ h=>h) (Or.inl ⟨rfl,?_⟩) H0 ?_
        rotate_left
        ·intro W hW; have hW:=HS.out W hW; go_simp; try with_reducible rfl
        simp only [put_list,List.set]
        refine Drawn.tk 10 (some 93) (v:=?_) rfl rfl (by kernel_rfl) rfl (fun _ _ _ h=>h) (Or.inl ⟨rfl,?_⟩) H0 ?_
        rotate_left
        ·intro W hW; have hW:=HS.out W hW; go_simp; try with_reducible rfl
        simp only [put_list,List.set]
        refine Drawn.tk 11 (some 94) (v:=?_) rfl rfl (by kernel_rfl) rfl (fun _ _ _ h=>h) (Or.inl ⟨rfl,?_⟩) H0 ?_
        rotate_left
        ·intro W hW; have hW:=HS.out W hW; go_simp; try with_reducible rfl
        simp only [put_list,List.set]
        refine Drawn.only 12 (by kernel_rfl) rfl rfl (fun K hK=>?_)
        go_simp
        have HLT:=Lib.hid MD.ne
        replace MD:=MD.alloc (rRO ReplyP.zero)
        unfold rRO at MD
        rw [zeroCells] at MD
        replace H0:=HS0.out _ _ MD (memC (memC (memC memS)))
        refine hK _ _ (fun _ _=>H0) ?_
        clear hK K
        obtain⟨q9,hq9⟩ : ∃ q,q=VA.heap.size:=⟨_,rfl⟩
        rw [← hq9] at MD HLT ⊢
        clear hq9
        generalize World.alloc VA _=V8 at MD H0 ⊢
        try simp only [put_list,List.set]
        refine Drawn.only 13 (by kernel_rfl) rfl rfl (fun K hK=>?_)
        have hbq:=MD.at (q:=q9) memS
        obtain⟨⟨g0,g1,g2,g3,g4,g5,g6,g7,g8,g9,g10⟩,e0,e1,e2,e3,e4,e5,e6,e7,e8,e9,e10⟩:=cells11 hbq
        have HBQ:=Lib.hid hbq
        clear hbq
        go_simp
        replace MD:=MD.put (chg_set11 _ q9 (.int .u64 rr.id) (.int .u64 rr.nonce) (.int .u64 (l3 rr.bal : Nat)) (.int .u64 (l2 rr.bal : Nat)) (.int .u64 (l1 rr.bal : Nat)) (.int .u64 (l0 rr.bal : Nat)) (.string (str rr.code)) (.int .u64 (l3 rr.value : Nat)) (.int .u64 (l2 rr.value : Nat)) (.int .u64 (l1 rr.value : Nat)) (.int .u64 (l0 rr.value : Nat))) (o':=rRO rr) (set11 HBQ.out _ _ _ _ _ _ _ _ _ _ _) HLT.out
        refine hK _ _ (fun _ _=>HS0.out _ _ MD (memC (memC (memC memS)))) ?_
        clear hK K g0 g1 g2 g3 g4 g5 g6 g7 g8 g9 g10 e0 e1 e2 e3 e4 e5 e6 e7 e8 e9 e10 HBQ H0
        generalize World.setCell _ _ _=V7 at MD ⊢
        try simp only [put_list,put_none,List.set]
        have H0:=HS0.out _ _ MD (memC (memC (memC memS)))
        refine Drawn.tk 14 (some 12) (v:=?_) rfl rfl (by kernel_rfl) rfl (fun _ _ _ h=>h) (Or.inl ⟨rfl,?_⟩) H0 ?_
        rotate_left
        ·intro W hW; have hW:=HS.out W hW; go_simp; try with_reducible rfl
        simp only [put_list,List.set]
        refine Drawn.done (by kernel_rfl) ?_ _
        go_wp2_with fail
        go_meet
        case rel=>exact⟨q9,o9,rr,HO9.out.1,HO9.out.2,rfl,rfl,HLT.out,MD⟩
       ·refine⟨_,rfl,rfl,fun K hK=>?_⟩
        go_simp
        have HLT:=Lib.hid MD.ne
        replace MD:=MD.alloc (rRO ReplyP.zero)
        unfold rRO at MD
        rw [zeroCells] at MD
        replace H0:=HS0.out _ _ MD (memC (memC (memC memS)))
        refine hK _ _ (fun _ _=>H0) ?_
        clear hK K
        obtain⟨q9,hq9⟩ : ∃ q,q=V9.heap.size:=⟨_,rfl⟩
        rw [← hq9] at MD HLT ⊢
        clear hq9
        generalize World.alloc V9 _=V8 at MD H0 ⊢
        try simp only [put_list,List.set]
        refine Drawn.only 8 (by kernel_rfl) rfl rfl (fun K hK=>?_)
        go_simp
        refine (GR.out _).mono ?_
        rintro e1 VA ⟨o9,ho9,rfl,hb⟩
        replace MD:=MD.call hb
        replace H0:=HS0.out _ _ MD (memC (memC (memC memS)))
        rw [replyO_eq]
        refine hK _ _ (fun _ _=>H0) ?_
        clear hK K hb
        obtain⟨rr,hrr⟩ : ∃ rr,rr=o9.getD ReplyP.zero:=⟨_,rfl⟩
        rw [← hrr]
        have HO9:=Lib.hid (And.intro ho9 hrr)
        clear ho9 hrr
        unfold replyV
        try simp only [put_list,List.set]
        refine Drawn.tk 9 (some 83) (v:=?_) rfl rfl (by kernel_rfl) rfl (fun _ _ _ h=>h) (Or.inl ⟨rfl,?_⟩) H0 ?_
        rotate_left
        ·intro W hW; have hW:=HS.out W hW; go_simp; try with_reducible rfl
        simp only [put_list,List.set]
        refine Drawn.tk 10 (some 93) (v:=?_) rfl rfl (by kernel_rfl) rfl (fun _ _ _ h=>h) (Or.inl ⟨rfl,?_⟩) H0 ?_
        rotate_left
        ·intro W hW; have hW:=HS.out W hW; go_simp; try with_reducible rfl
        simp only [put_list,List.set]
        refine Drawn.tk 11 (some 94) (v:=?_) rfl rfl (by kernel_rfl) rfl (fun _ _ _ h=>h) (Or.inl ⟨rfl,?_⟩) H0 ?_
        rotate_left
        ·intro W hW; have hW:=HS.out W hW; go_simp; try with_reducible rfl
        simp only [put_list,List.set]
        refine Drawn.only 13 (by kernel_rfl) rfl rfl (fun K hK=>?_)
        have hbq:=MD.at (q:=q9) memS
        obtain⟨⟨g0,g1,g2,g3,g4,g5,g6,g7,g8,g9,g10⟩,e0,e1,e2,e3,e4,e5,e6,e7,e8,e9,e10⟩:=cells11 hbq
        have HBQ:=Lib.hid hbq
        clear hbq
        go_simp
        replace MD:=MD.put (chg_set11 _ q9 (.int .u64 rr.id) (.int .u64 rr.nonce) (.int .u64 (l3 rr.bal : Nat)) (.int .u64 (l2 rr.bal : Nat)) (.int .u64 (l1 rr.bal : Nat)) (.int .u64 (l0 rr.bal : Nat)) (.string (str rr.code)) (.int .u64 (l3 rr.value : Nat)) (.int .u64 (l2 rr.value : Nat)) (.int .u64 (l1 rr.value : Nat)) (.int .u64 (l0 rr.value : Nat))) (o':=rRO rr) (set11 HBQ.out _ _ _ _ _ _ _ _ _ _ _) HLT.out
        refine hK _ _ (fun _ _=>HS0.out _ _ MD (memC (memC (memC memS)))) ?_
        clear hK K g0 g1 g2 g3 g4 g5 g6 g7 g8 g9 g10 e0 e1 e2 e3 e4 e5 e6 e7 e8 e9 e10 HBQ H0
        generalize World.setCell _ _ _=V7 at MD ⊢
        try simp only [put_list,put_none,List.set]
        have H0:=HS0.out _ _ MD (memC (memC (memC memS)))
        refine Drawn.tk 14 (some 12) (v:=?_) rfl rfl (by kernel_rfl) rfl (fun _ _ _ h=>h) (Or.inl ⟨rfl,?_⟩) H0 ?_
        rotate_left
        ·intro W hW; have hW:=HS.out W hW; go_simp; try with_reducible rfl
        simp only [put_list,List.set]
        refine Drawn.done (by kernel_rfl) ?_ _
        go_wp2_with fail
        go_meet
        case rel=>exact⟨q9,o9,rr,HO9.out.1,HO9.out.2,rfl,rfl,HLT.out,MD⟩
      case rest=>
       obtain⟨q11,o9,rr,ho9,hrr,rfl,rfl,hL11,M8⟩:=hcut
       have HO:=Lib.hid (And.intro ho9 (And.intro hrr hL11))
       clear ho9 hrr hL11 GR HS0 HM6
       have HM8:=Lib.hid M8
       clear M8
       go_upto_region 16 with fail
       go_cut [12] from 45 to 150 (fun gg wx=>gg=.bool o9.isSome∧∃ sv2,An (RAt p ⟨c1.known,t,c1.asked ++ [en]⟩ name e v b cv sv2 av2 n2) (ftR e v b cv sv2 av2) W (ftR e v b cv sv av) ((q11,rRO rr) :: [(q8,rAO { a with id:=n1 }),(W.heap.size+1,rRO ReplyP.zero),(W.heap.size,rAO a)]) wx)
       case first=>
        obtain⟨⟨_,_,_,c3,_⟩,fz⟩:=HM8.out.ob.it.reads
        have f3:=fz 3
        have hO:=HM8.out.ob.it.scr
        rw [HCX.out.2] at hO
        have hT:=Of.tail (u:=.string (str s)) (t:=t.map encS) hO
        rw [List.length_map] at hT
        have hcap2 : t.length+1≤cap:=hcap
        have hN1 : cap=1→_:=fun e9=>HM8.out.ob.it.newScript (s':=t) (show Chg (fun k=>(Value.slice (some ⟨g,o,none⟩) (t.length+1) cap).ownBlock=some k) (fun k=>(Value.slice (some ⟨g,o,none⟩) t.length 0).ownBlock=some k) wc wc from Chg.refl _ _) (hT.1 e9)
        have hN2 : cap≠1→_:=fun e9=>HM8.out.ob.it.newScript (s':=t) (show Chg (fun k=>(Value.slice (some ⟨g,o,none⟩) (t.length+1) cap).ownBlock=some k) (fun k=>(Value.slice (some ⟨g,o+1,none⟩) t.length (cap-1)).ownBlock=some k) wc wc from Chg.refl _ _) (hT.2 e9)
        rw [show ({ cx with script:=t } : Cl)=⟨c1.known,t,c1.asked ++ [en]⟩ by rw [HCX.out.1]] at hN1 hN2
        have H1:=Lib.hid hN1
        have H2:=Lib.hid hN2
        clear hN1 hN2 hT hO fz hcap
        generalize t.length=n7 at *
        by_cases h1 : cap=1
        ·subst h1
         obtain rfl : n7=0:=by omega
         have HQ:=Lib.hid (H1.out rfl)
         clear H1 H2
         go_wp2_with fail
         go_meet
         case rel=>exact⟨rfl,_,HM8.out.step HQ.out.1.ob HQ.out.2⟩
        ·have HQ:=Lib.hid (H2.out h1)
         clear H1 H2
         go_wp2_with fail
         go_meet
         case rel=>exact⟨rfl,_,HM8.out.step HQ.out.1.ob HQ.out.2⟩
       case rest=>
        obtain⟨rfl,sv2,M9⟩:=hcut
        clear HM8
        have hz11:=M9.at (q:=q11) (o:=rRO rr) memS
        have hz8:=M9.at (q:=q8) (o:=rAO { a with id:=n1 }) (memC memS)
        obtain⟨⟨g0,g1,g2,g3,g4,g5,g6,g7,g8,g9,g10⟩,e0,_⟩:=cells11 hz11
        obtain⟨⟨z0,_⟩,_⟩:=cells7 hz8
        have HM9:=Lib.hid M9
        clear M9
        have HE:=Lib.hid (fun (c2:Cl) (hc2:c1.tries a (j+1)=Cl.tries a j c2) (h2:c2.known=c1.known) (h3:c2.asked.length=c1.asked.length+1)=>(show c.tries a 3=c2.tries a (3-(k+1))∧c2.known=K∧n2=c2.asked.length+1∧n2≤n+(k+1) from by
          obtain⟨h1',h2',h3',h4',h5',h6'⟩:=HT.out
          exact⟨by rw [show 3-(k+1)=j by omega,h1']; exact hc2,h2.trans h2',by have:=HN2.out.1; omega,by have:=HN2.out.1; omega⟩))
        have HTS:=Lib.hid (fun o (ho:ReplyIs a.kind s o)=>tries_step (a:=a) (c:=c1) (j:=j) (o:=o) (by rw [HSN.out]; exact ho))
        rw [← HT.out.2.2.1,← HEN.out,HSN.out] at HTS
        simp only [List.tail_cons] at HTS
        cases o9 with
        | none=>
         simp only [Option.isSome_none]
         clear g1 g2 g3 g4 g5 g6 g7 g8 g9 g10 hz11 hz8
         go_wp2_with fail
         obtain⟨h1,h2,h3,h4⟩:=HE.out ⟨c1.known,t,c1.asked ++ [en]⟩ ((HTS.out none HO.out.1).2 (fun r h=>by cases h)) rfl (by simp)
         exact⟨⟨k+1,_,_,_,_,by go_num,by have:=HT.out.2.2.2.2.1; omega,h1,h2,h3,h4,HM9.out.sub (fun x hx=>memC (List.mem_cons_of_mem _ hx))⟩,by have:=HT.out.2.2.2.2.1; simp [intOf]; omega⟩
        | some r=>
         obtain rfl : rr=r:=HO.out.2.1
         simp only [Option.isSome_some]
         by_cases hid : rr.id=n1
         ·have hii : (rr.id : Int)=(n1:Int):=by omega
          obtain⟨r0,hr0⟩ : ∃ r0,r0=({ rr with id:=0 } : ReplyP):=⟨_,rfl⟩
          have M10:=HM9.out.put (chg_set (F:=fun k=>k=q11) (F':=fun k=>k=q11) (Chg.refl _ _) (Or.inl rfl) 0 (.int .u64 0)) (o':=rRO r0) (by rw [heap_setCell_same _ q11 0 _ _ (.int .u64 0) hz11,hr0]; rfl) HO.out.2.2
          obtain⟨hrw,hrok,_⟩:=HO.out.1
          have h0w : r0.Wf:=by rw [hr0]; exact⟨by show 0<M64; unfold M64; omega,hrw.nonce,hrw.bal,hrw.value⟩
          have h0k : r0.Ok a.kind:=by rw [hr0]; exact hrok
          have h3:=(HTS.out (some rr) HO.out.1).1 rr rfl hid
          rw [← hr0] at h3
          have ht3 : c.tries a 3=(some r0,⟨c1.known,t,c1.asked ++ [en]⟩):=HT.out.1.trans h3
          have HR0:=Lib.hid (And.intro h0w (And.intro h0k ht3))
          clear g1 g2 g3 g4 g5 g6 g7 g8 g9 g10 hr0 hrw hrok h3 ht3
          go_upto_region 19 with fail
          generalize World.setCell _ _ _=V10 at M10 ⊢
          clear g0 z0 e0 hz11 hz8 hii HM9 HO HTS HE
          obtain⟨⟨y0,y1,y2,y3,y4,y5,y6⟩,_⟩:=cells7 (M10.at (q:=W.heap.size) (o:=rAO a) (memC (memC (memC memS))))
          have PA:=Lib.hid (rputAsk_c (a:=a) HK.out.2.1.1 V10)
          rw [putAskV_ok HK.out.2.1.2.1] at PA
          unfold askV at PA
          have HM10:=Lib.hid M10
          clear M10
          go_wp2_with fail
          refine PA.out.mono ?_
          rintro e1 V11 ⟨rfl,hb⟩
          have M11:=HM10.out.call hb
          clear HM10 hb PA y0 y1 y2 y3 y4 y5 y6
          obtain⟨⟨y0,y1,y2,y3,y4,y5,y6⟩,_⟩:=cells7 (M11.at (q:=W.heap.size) (o:=rAO a) (memC (memC (memC memS))))
          obtain⟨⟨g0,g1,g2,g3,g4,g5,g6,g7,g8,g9,g10⟩,_⟩:=cells11 (M11.at (q:=q11) (o:=rRO r0) memS)
          have PR:=Lib.hid (rputReply_c a.kind HR0.out.1 V11)
          rw [putReplyV_ok HR0.out.2.1] at PR
          unfold replyV at PR
          have HM11:=Lib.hid M11
          clear M11
          go_wp2_with fail
          refine PR.out.mono ?_
          rintro e1 V12 ⟨rfl,hb⟩
          have M12:=HM11.out.call hb
          clear HM11 hb PR y0 y1 y2 y3 y4 y5 y6 g0 g1 g2 g3 g4 g5 g6 g7 g8 g9 g10
          obtain⟨en0,hen0⟩ : ∃ en0,en0=a.enc:=⟨_,rfl⟩
          obtain⟨tn0,htn0⟩ : ∃ tn0,tn0=r0.enc a.kind:=⟨_,rfl⟩
          rw [← hen0,← htn0]
          have hrf : recF a r0=.text en0 (.text tn0 .nil):=by rw [hen0,htn0]; rfl
          have HRF:=Lib.hid hrf
          have HM12:=Lib.hid M12
          clear hen0 htn0 hrf M12
          go_upto_region 21 with fail
          have MD:=HM12.out.call (Below.refl _ _).drew
          have HS:=Lib.hid (fun (V:World) (hV:V.heap[b]?=some (.cells (cellsR e name cv sv2 av2 n2) 43 (0,0)))=>And.intro (show V.cell? ⟨b,0,none⟩=some (.pointer (some ⟨e,0,none⟩)) from cell_of hV 0) (show V.cell? ⟨b,1,none⟩=some (.string (str name)) from cell_of hV 1))
          have H0:=MD.ob.it.cell
          refine Drawn.start (fun V=>V.heap[b]?=some (.cells (cellsR e name cv sv2 av2 n2) 43 (0,0))) (fun _=>false) (by kernel_rfl) ?_
          generalize World.drew _=V13 at MD H0 ⊢
          refine Drawn.tk 0 (some 125) (v:=?_) rfl rfl (by kernel_rfl) rfl (fun _ _ _ h=>h) (Or.inl ⟨rfl,?_⟩) H0 ?_
          rotate_left
          ·intro W hW; have hW:=HS.out W hW; go_simp; try with_reducible rfl
          simp only [put_list,List.set]
          refine Drawn.tk 1 (some 126) (v:=?_) rfl rfl (by kernel_rfl) rfl (fun _ _ _ h=>h) (Or.inl ⟨rfl,?_⟩) H0 ?_
          rotate_left
          ·intro W hW; have hW:=HS.out W hW; go_simp; try with_reducible rfl
          simp only [put_list,List.set]
          refine Drawn.tk 2 (some 127) (v:=?_) rfl rfl (by kernel_rfl) rfl (fun _ _ _ h=>h) (Or.inl ⟨rfl,?_⟩) H0 ?_
          rotate_left
          ·intro W hW; have hW:=HS.out W hW; go_simp; try with_reducible rfl
          simp only [put_list,List.set]
          refine Drawn.tk 3 (some 128) (v:=?_) rfl rfl (by kernel_rfl) rfl (fun _ _ _ h=>h) (Or.inl ⟨rfl,?_⟩) H0 ?_
          rotate_left
          ·intro W hW; have hW:=HS.out W hW; go_simp; try with_reducible rfl
          simp only [put_list,List.set]
          refine Drawn.tk 4 (some 129) (v:=?_) rfl rfl (by kernel_rfl) rfl (fun _ _ _ h=>h) (Or.inl ⟨rfl,?_⟩) H0 ?_
          rotate_left
          ·intro W hW; have hW:=HS.out W hW; go_simp; try with_reducible rfl
          simp only [put_list,List.set]
          refine Drawn.tk 5 (some 130) (v:=?_) rfl rfl (by kernel_rfl) rfl (fun _ _ _ h=>h) (Or.inl ⟨rfl,?_⟩) H0 ?_
          rotate_left
          ·intro W hW; have hW:=HS.out W hW; go_simp; try with_reducible rfl
          simp only [put_list,List.set]
          refine Drawn.tk 6 (some 131) (v:=?_) rfl rfl (by kernel_rfl) rfl (fun _ _ _ h=>h) (Or.inl ⟨rfl,?_⟩) H0 ?_
          rotate_left
          ·intro W hW; have hW:=HS.out W hW; go_simp; try with_reducible rfl
          simp only [put_list,List.set]
          refine Drawn.tk 7 (some 132) (v:=?_) rfl rfl (by kernel_rfl) rfl (fun _ _ _ h=>h) (Or.inl ⟨rfl,?_⟩) H0 ?_
          rotate_left
          ·intro W hW; have hW:=HS.out W hW; go_simp; try with_reducible rfl
          simp only [put_list,List.set]
          refine Drawn.tk 8 (some 133) (v:=?_) rfl rfl (by kernel_rfl) rfl (fun _ _ _ h=>h) (Or.inl ⟨rfl,?_⟩) H0 ?_
          rotate_left
          ·intro W hW; have hW:=HS.out W hW; go_simp; try with_reducible rfl
          simp only [put_list,List.set]
          refine Drawn.tk 9 (some 134) (v:=?_) rfl rfl (by kernel_rfl) rfl (fun _ _ _ h=>h) (Or.inl ⟨rfl,?_⟩) H0 ?_
          rotate_left
          ·intro W hW; have hW:=HS.out W hW; go_simp; try with_reducible rfl
          simp only [put_list,List.set]
          refine Drawn.tk 10 (some 135) (v:=?_) rfl rfl (by kernel_rfl) rfl (fun _ _ _ h=>h) (Or.inl ⟨rfl,?_⟩) H0 ?_
          rotate_left
          ·intro W hW; have hW:=HS.out W hW; go_simp; try with_reducible rfl
          simp only [put_list,List.set]
          refine Drawn.tk 11 (some 136) (v:=?_) rfl rfl (by kernel_rfl) rfl (fun _ _ _ h=>h) (Or.inl ⟨rfl,?_⟩) H0 ?_
          rotate_left
          ·intro W hW; have hW:=HS.out W hW; go_simp; try with_reducible rfl
          simp only [put_list,List.set]
          refine Drawn.only 12 (by kernel_rfl) rfl rfl (fun K' hK=>?_)
          go_simp
          have hown:=own_litR V13 (.text en0 (.text tn0 .nil)) #[.bool false,.string (str en0),.slice none 0 0,.bool false,.string (str tn0),.slice none 0 0] (fo2_cel _ _ _) 2 rfl (by omega)
          replace MD:=MD.alloc (.cells #[.bool false,.string (str en0),.slice none 0 0,.bool false,.string (str tn0),.slice none 0 0] 125 (0,0))
          refine hK _ _ (fun _ _=>MD.ob.it.cell) ?_
          clear hK K' H0
          have H0:=MD.ob.it.cell
          generalize World.alloc V13 _=V14 at MD H0 hown ⊢
          try simp only [put_list,List.set]
          refine Drawn.tk 13 (some 138) (v:=?_) rfl rfl (by kernel_rfl) rfl (fun _ _ _ h=>h) (Or.inl ⟨rfl,?_⟩) H0 ?_
          rotate_left
          ·intro W hW; have hW:=HS.out W hW; go_simp; try with_reducible rfl
          simp only [put_list,List.set]
          refine Drawn.only 14 (by kernel_rfl) rfl rfl (fun K' hK=>?_)
          have RE:=renc_list hown.sl (fun k hk=>hk.2) (by rw [← HRF.out]; have:=recF_len HK.out.2.1 HR0.out.1 HR0.out.2.1; omega)
          rw [← HRF.out,show str (It.list (recF a r0)).enc=str (recE a r0) from rfl] at RE
          go_simp
          refine RE.mono ?_
          rintro e1 V15 ⟨rfl,hb⟩
          replace MD:=MD.call hb
          refine hK _ _ (fun _ _=>MD.ob.it.cell) ?_
          clear hK K' H0 RE hown hb
          have H0:=MD.ob.it.cell
          try simp only [put_list,List.set]
          refine Drawn.only 15 (by kernel_rfl) rfl rfl (fun K' hK=>?_)
          have AD:=padd_c MD.ob.it.rk HK.out.2.2.2.2.1 name (recE a r0) (Nat.zero_le _) HK.out.2.2.2.2.2.1
          go_simp
          refine AD.mono ?_
          rintro e1 V16 ⟨rfl,v9,hrk,hch⟩
          have hdk:=MD.ob.it.disk hrk hch
          replace MD:=MD.step hdk.1.ob hdk.2
          refine hK _ _ (fun _ _=>MD.ob.it.cell) ?_
          clear hK K' H0 AD hrk hch hdk
          have H0:=MD.ob.it.cell
          try simp only [put_list,List.set]
          refine Drawn.tk 16 (some 17) (v:=?_) rfl rfl (by kernel_rfl) rfl (fun _ _ _ h=>h) (Or.inl ⟨rfl,?_⟩) H0 ?_
          rotate_left
          ·intro W hW; have hW:=HS.out W hW; go_simp; try with_reducible rfl
          simp only [put_list,List.set]
          refine Drawn.done (by kernel_rfl) ?_ _
          replace MD:=MD.sub (L':=(q11,rRO r0) :: [(q8,rAO { a with id:=n1 }),(W.heap.size+1,rRO ReplyP.zero),(W.heap.size,rAO a)]) (fun x hx=>List.mem_cons_of_mem _ hx)
          have HMD:=Lib.hid MD
          clear MD H0 HS HM12
          obtain⟨ec,hec⟩ : ∃ ec,ec=(p.add name (recE a r0)).1:=⟨_,rfl⟩
          rw [← hec]
          have HEC:=Lib.hid hec
          clear hec
          have hn2' : n2=(⟨c1.known,t,c1.asked ++ [en]⟩ : Cl).asked.length+1:=by have:=HN2.out.1; have:=HT.out.2.2.1; simp only [List.length_append,List.length_singleton]; omega
          have HN9:=Lib.hid hn2'
          clear hn2'
          by_cases h0 : ec=0
          ·subst h0
           have LC:=rlearn_c HMD.out.ob.it (by rw [HT.out.2.1]; exact fun x hx=>(HK.out.1.key x hx).1.1) r0 HK.out.2.1.1 (by rw [HT.out.2.1]; omega)
           rw [show (kcells (a,r0)).toArray=#[.int .u64 (a.id : Nat),.string (str a.addr),.int .u64 (l3 a.slot : Nat),.int .u64 (l2 a.slot : Nat),.int .u64 (l1 a.slot : Nat),.int .u64 (l0 a.slot : Nat),.int .i64 a.kind,.int .u64 (r0.id : Nat),.int .u64 (r0.nonce : Nat),.int .u64 (l3 r0.bal : Nat),.int .u64 (l2 r0.bal : Nat),.int .u64 (l1 r0.bal : Nat),.int .u64 (l0 r0.bal : Nat),.string (str r0.code),.int .u64 (l3 r0.value : Nat),.int .u64 (l2 r0.value : Nat),.int .u64 (l1 r0.value : Nat),.int .u64 (l0 r0.value : Nat)] from rfl] at LC
           have HLC:=Lib.hid LC
           obtain⟨⟨y0,y1,y2,y3,y4,y5,y6⟩,_⟩:=cells7 (HMD.out.at (q:=W.heap.size) (o:=rAO a) (memC (memC (memC memS))))
           obtain⟨⟨g0,g1,g2,g3,g4,g5,g6,g7,g8,g9,g10⟩,_⟩:=cells11 (HMD.out.at (q:=q11) (o:=rRO r0) memS)
           clear LC
           go_wp2_with fail
           refine HLC.out.mono ?_
           rintro e1 V17 ⟨rfl,cv9,hr9,hch9⟩
           have M17:=HMD.out.step hr9.ob hch9
           clear HLC HMD hr9 hch9 y0 y1 y2 y3 y4 y5 y6 g0 g1 g2 g3 g4 g5 g6 g7 g8 g9 g10
           obtain⟨⟨g0,g1,g2,g3,g4,g5,g6,g7,g8,g9,g10⟩,_⟩:=cells11 (M17.at (q:=q11) (o:=rRO r0) memS)
           obtain⟨⟨z0,z1,z2,z3,z4,z5,z6,z7,z8,z9,z10⟩,e0,e1,e2,e3,e4,e5,e6,e7,e8,e9,e10⟩:=cells11 (M17.at (q:=W.heap.size+1) (o:=rRO ReplyP.zero) (memC (memC memS)))
           have HR:=Lib.hid (fun V' hV'=>An.answerR (k:=0) (r:=r0) (res:=askQ name p c a) M17 (memC (memC memS)) HN9.out ((askQ_new (by rw [HKN.out]; exact HX.out)).trans (learnP_ok HR0.out.2.2 HEC.out.symm)) (V':=V') hV')
           clear M17
           go_wp2_with fail
           obtain⟨q1,q2⟩:=HR.out _ rfl
           exact bodyPost_ret (results_cell_slot Tryz.results117 _ _ _ _ _ _ _ _ rfl rfl q1 Tryz.underlying131 rfl (by kernel_rfl)) rfl q2
          ·obtain⟨⟨z0,z1,z2,z3,z4,z5,z6,z7,z8,z9,z10⟩,e0,e1,e2,e3,e4,e5,e6,e7,e8,e9,e10⟩:=cells11 (HMD.out.at (q:=W.heap.size+1) (o:=rRO ReplyP.zero) (memC (memC memS)))
           have HR:=Lib.hid (fun V' hV'=>An.answerZ (k:=ec) (res:=askQ name p c a) HMD.out (memC (memC memS)) HN9.out ((askQ_new (by rw [HKN.out]; exact HX.out)).trans (by rw [HEC.out]; exact learnP_err HR0.out.2.2 (by rw [← HEC.out]; exact h0))) (V':=V') hV')
           go_wp2_with fail
           obtain⟨q1,q2⟩:=HR.out _ rfl
           exact bodyPost_ret (results_cell_slot Tryz.results117 _ _ _ _ _ _ _ _ rfl rfl q1 Tryz.underlying131 rfl (by kernel_rfl)) rfl q2
         ·have hii : ¬ (rr.id : Int)=(n1:Int):=by omega
          clear g1 g2 g3 g4 g5 g6 g7 g8 g9 g10 hz11 hz8
          go_wp2_with fail
          obtain⟨h1,h2,h3,h4⟩:=HE.out ⟨c1.known,t,c1.asked ++ [en]⟩ ((HTS.out (some rr) HO.out.1).2 (fun r' h=>by cases h; exact hid)) rfl (by simp)
          exact⟨⟨k+1,_,_,_,_,by go_num,by have:=HT.out.2.2.2.2.1; omega,h1,h2,h3,h4,HM9.out.sub (fun x hx=>memC (List.mem_cons_of_mem _ hx))⟩,by have:=HT.out.2.2.2.2.1; simp [intOf]; omega⟩
    ·obtain rfl : k=3:=by omega
     have ht : c.tries a 3=(none,c1):=by rw [htr]; rfl
     obtain⟨⟨z0,z1,z2,z3,z4,z5,z6,z7,z8,z9,z10⟩,e0,e1,e2,e3,e4,e5,e6,e7,e8,e9,e10⟩:=cells11 (M.at (q:=W.heap.size+1) (o:=rRO ReplyP.zero) memS)
     have HR:=Lib.hid (fun V' hV'=>An.answerZ (k:=4) (res:=askQ name p c a) M memS hn1 ((askQ_new (by rw [HKN.out]; exact HX.out)).trans (learnP_none ht)) (V':=V') hV')
     clear M htr hkn1 hn1 hnk hlt ht hk
     go_wp2_with fail
     obtain⟨q1,q2⟩:=HR.out _ rfl
     exact bodyPost_ret (results_cell_slot Tryz.results117 _ _ _ _ _ _ _ _ rfl rfl q1 Tryz.underlying131 rfl (by kernel_rfl)) rfl q2
end
end Go.Proofs.YtekoaheiapddiaaGreat.Dz
end
