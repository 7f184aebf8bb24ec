/- Merged: Gk, Gl, Gm, Gn. -/
import Derived.Test.YtekoaheiapddiaaGreatM35
import Derived.Test.YtekoaheiapddiaaGreatM09
import Derived.Test.YtekoaheiapddiaaGreatM16
import Derived.Test.YtekoaheiapddiaaGreatM25
import Derived.Deep.SlicePairs
import Derived.Carry
import Derived.SizedLaws
section
namespace Go.Proofs.YtekoaheiapddiaaGreat.Dz
open Go.RowKit
section
variable {p : Pd} {c : Cl} {X : Nat→Prop} {V0 W : World} {N d b e b' m : Nat} {F : Nat→Prop} {sv av v cv sv' av' : Value}
theorem wp_append_of {P : Program} {o : Oper} {a : Act} {K : Act→World→Prop} {Q : Exit→Act→World→Prop} {W : World} (s x : Operand) (t e : TypeId)
  (ho:o.op=.call { callee:=.builtin .append,args:=#[s,x],argTypes:=#[t,t] }) (ht:P.underlying t=some (.slice e)) (z:Value) (bytes:Nat)
  (hinfo:(P.info? e).map (fun i=>(i.zero,i.size,i.bytes))=some (some z,1,bytes)) (hz1:z.cells.size=1) (hby:bytes≤48)
  (B:Nat) {v : Value} (l news : List Value) (hs:a.eval s=v) (h:Of B e l v W) (sa:Option Addr) (n c : Nat) (hx:a.eval x=.slice sa n c) (hn:n=news.length) (hnews:Src news sa W) (h1:∀ u∈news,u.oneCell'=true)
  (hle:l.length+news.length≤1000000000000) (hB:B≤W.heap.size)
  (hK:∀ v' W',Of B e (l ++ news) v' W'→W.grownBy W' v.ownBlock→(v'.ownBlock=v.ownBlock∨v'.ownBlock=some W.heap.size)→K (a.put o.dst v') W') : Oper.wp P o a W K Q:=by
 obtain⟨i0,hi,hz0,hzz,hz2⟩:=info_parts hinfo
 subst hn
 obtain⟨v',W',hr,q1,q2,q3⟩:=run_append_of (P:=P) W B t o.type e i0 z bytes ht hi hz0 hzz hz2 hz1 h sa c hnews h1 (by unfold maxLen; omega) (Nat.le_trans (Nat.mul_le_mul_left _ hby) (by omega)) hB
 unfold Oper.wp execOp
 simp only [ho,resolve,invoke,builtin,Sem.run_bind,Sem.run_pure,Result.andThen_ok,List.map_toArray,List.map_cons,List.map_nil,hs,hx,hr]
 exact hK v' W' q1 q2 q3
theorem own_src {B : Nat} {l : List Nm} {a : Option Addr} {n c : Nat} {V : World} (h:OwnS B l (.slice a n c) V) : Src (l.map encS) a V:=by
 rcases h.2 with ⟨hv,h0⟩ | ⟨g,cap,cur,hv,_,hg,_⟩
 ·exact Or.inl (by rw [List.eq_nil_of_length_eq_zero h0]; rfl)
 ·cases hv
  exact Or.inr ⟨_,rfl,fun j u hj=>h.cells (g:=g) rfl j u hj⟩
set_option maxRecDepth 100000 in
set_option maxHeartbeats 8000000 in
theorem does_script (h:Tw2 (Bo p c nmC d N F b m sv av) (ftB F b m sv av) (RAt p c nmC e v b' cv sv' av' (c.asked.length+1)) (ftR e v b' cv sv' av') X V0 W) (hsc:c.script.length≤1000000) {k a s : Nat} (hk:k % 5=4) (l:List ToldP) (pa:Option Addr) (pc:Nat)
  (hT:∀ V : World,(∀ k,X k→k<V.heap.size∧V.heap[k]?=V0.heap[k]?)→Tolds V pa l) (hlm:l.length≤9000000000000000000) :
  Calls Tryz.prog 20 #[.pointer (some ⟨b,0,none⟩),.pointer (some ⟨b',0,none⟩),.agg (deedC k a s pa l.length pc)] W fun e1 W'=>DoesR (deedP p c k a s l).1 (deedP p c k a s l).2 X V0 N d b e b' e1 W':=by
 have hki : (k:Int) % 5=4:=by omega
 have hdp : deedP p c k a s l=(p,{ c with script:=c.script ++ scriptP l }):=by unfold deedP; rw [if_neg (by omega),if_neg (by omega)]
 have hpl : (scriptP l).length≤40:=by unfold scriptP; rw [scriptF_len,List.length_take]; omega
 obtain⟨W0,hW0⟩ : ∃ W0,W0=W.alloc (deedO k a s pa l.length pc):=⟨_,rfl⟩
 have H1:=h.box (deedO k a s pa l.length pc)
 rw [← hW0] at H1
 have hbx : W0.heap[W.heap.size]?=some (deedO k a s pa l.length pc):=by rw [hW0]; exact heap_alloc_new _ _
 have HU:=Lib.hid h
 have HTV:=Lib.hid (fun V {Pc Rc : World→Prop} {fc gc : Nat→Prop} (M:Tw2 Pc fc Rc gc (fun k=>X k∨k=W.heap.size) W0 V)=>(show Tolds V pa l from hT V fun k hk=>⟨(M.ext k (Or.inl hk)).1,(M.ext k (Or.inl hk)).2.2.2.trans (by rw [hW0]; exact (Below.heap_alloc W _ _ (h.ext k hk).1).trans (h.ext k hk).2.2.2)⟩))
 have SC:=Lib.hid (fun V (hV:Tolds V pa l)=>script_c l pa pc V hV hlm)
 have HM:=Lib.hid H1
 have HDn:=Lib.hid (fun V {Pc Rc : World→Prop} {fc gc : Nat→Prop} (M:Tw2 Pc fc Rc gc (fun k=>X k∨k=W.heap.size) W0 V)=>M.at (Or.inr rfl) hbx)
 obtain⟨⟨x0,x1,x2,x3⟩,_⟩:=cells4 hbx
 have HW0:=Lib.hid hW0
 have HB:=Lib.hid (And.intro hsc hpl)
 rw [hdp]
 unfold deedC
 clear h H1 hbx hT hlm hsc hpl hdp
 generalize l.length=ln at *
 go_enter Tryz.func20,Tryz.ntmps20
 go_upto_region 1 with fail
 rw [show W.alloc (.cells #[.int .u8 k,.int .u8 a,.int .u8 s,.slice pa ln pc] 45)=W0 from HW0.out.symm]
 clear hW0
 have S1:=Lib.hid (SC.out _ (HTV.out _ HM.out))
 go_wp2_with fail
 refine S1.out.mono ?_
 rintro e1 V1 ⟨v1,rfl,ho1,hb⟩
 have M1:=HM.out.call hb
 obtain⟨a1,c1,hf1⟩:=ho1.form
 subst hf1
 have T1:=Lib.hid (script_m M1.one.it.at' (scriptP l) a1 c1 (own_src ho1) (by have:=HB.out; omega))
 have HM1:=Lib.hid M1
 clear M1 ho1 hb S1 HM x0 x1 x2 x3
 generalize (scriptP l).length=nl at T1 ⊢
 go_wp2_with fail
 refine T1.out.mono ?_
 rintro e1 V2 ⟨rfl,sv2,hA2,hC2⟩
 have hB2:=HM1.out.one.it.client hA2 hC2
 have M2:=HM1.out.left hB2.1.ob hB2.2
 clear T1 hA2 hC2 hB2
 obtain⟨ax,cs,hsf⟩:=M2.two.it.scr.form
 rw [List.length_map] at hsf
 subst hsf
 obtain⟨ls,hls⟩ : ∃ ls,ls=c.script.length:=⟨_,rfl⟩
 rw [← hls] at M2
 have HLS:=Lib.hid hls
 have HM2:=Lib.hid M2
 clear M2 HM1 hls
 go_upto_region 13 with fail
 have MD:=HM2.out.call (Below.refl _ _).drew
 have HS:=Lib.hid (fun (V:World) (hV:V.heap[W.heap.size]?=some (deedO k a s pa ln pc)∧V.heap[b']?=some (.cells (cellsR e nmC cv (.slice ax ls cs) av' (c.asked.length+1)) 43 (0,0)))=>And.intro (show V.cell? ⟨W.heap.size,3,none⟩=some (.slice pa ln pc) from cell_of hV.1 3) (show V.cell? ⟨b',3,none⟩=some (.slice ax ls cs) from cell_of hV.2 3))
 have H0:=And.intro (HDn.out _ MD) MD.two.it.cell
 refine Drawn.start (fun V=>V.heap[W.heap.size]?=some (deedO k a s pa ln pc)∧V.heap[b']?=some (.cells (cellsR e nmC cv (.slice ax ls cs) av' (c.asked.length+1)) 43 (0,0))) (fun j=>j == 11) (by kernel_rfl) ?_
 generalize World.drew _=V9 at MD H0 ⊢
 refine Drawn.tk 0 (some 87) (v:=?_) rfl rfl (by kernel_rfl) rfl (fun _ _ _ h=>h) (Or.inl ⟨rfl,?_⟩) H0 ?_
 rotate_left
 ·intro W hW; have hW:=HS.out W hW; go_simp; try with_reducible rfl
 simp only [put_list,List.set]
 refine Drawn.tk 1 (some 88) (v:=?_) rfl rfl (by kernel_rfl) rfl (fun _ _ _ h=>h) (Or.inl ⟨rfl,?_⟩) H0 ?_
 rotate_left
 ·intro W hW; have hW:=HS.out W hW; go_simp; try with_reducible rfl
 simp only [put_list,List.set]
 refine Drawn.tk 2 (some 89) (v:=?_) rfl rfl (by kernel_rfl) rfl (fun _ _ _ h=>h) (Or.inl ⟨rfl,?_⟩) H0 ?_
 rotate_left
 ·intro W hW; have hW:=HS.out W hW; go_simp; try with_reducible rfl
 simp only [put_list,List.set]
 refine Drawn.tk 3 (some 90) (v:=?_) rfl rfl (by kernel_rfl) rfl (fun _ _ _ h=>h) (Or.inl ⟨rfl,?_⟩) H0 ?_
 rotate_left
 ·intro W hW; have hW:=HS.out W hW; go_simp; try with_reducible rfl
 simp only [put_list,List.set]
 refine Drawn.tk 4 (some 91) (v:=?_) rfl rfl (by kernel_rfl) rfl (fun _ _ _ h=>h) (Or.inl ⟨rfl,?_⟩) H0 ?_
 rotate_left
 ·intro W hW; have hW:=HS.out W hW; go_simp; try with_reducible rfl
 simp only [put_list,List.set]
 refine Drawn.tk 5 (some 92) (v:=?_) rfl rfl (by kernel_rfl) rfl (fun _ _ _ h=>h) (Or.inl ⟨rfl,?_⟩) H0 ?_
 rotate_left
 ·intro W hW; have hW:=HS.out W hW; go_simp; try with_reducible rfl
 simp only [put_list,List.set]
 refine Drawn.tk 6 (some 93) (v:=?_) rfl rfl (by kernel_rfl) rfl (fun _ _ _ h=>h) (Or.inl ⟨rfl,?_⟩) H0 ?_
 rotate_left
 ·intro W hW; have hW:=HS.out W hW; go_simp; try with_reducible rfl
 simp only [put_list,List.set]
 refine Drawn.only 7 (by kernel_rfl) rfl rfl (fun K' hK=>?_)
 have S2:=SC.out _ (HTV.out _ MD)
 go_simp
 refine S2.mono ?_
 rintro e1 VA ⟨v2,rfl,ho2,hb⟩
 replace MD:=MD.call hb
 refine hK _ _ (fun _ _=>And.intro (HDn.out _ MD) MD.two.it.cell) ?_
 clear hK K' H0 hb S2
 obtain⟨a2,c2,hf2⟩:=ho2.form
 obtain⟨n2,hn2⟩ : ∃ n2,n2=(scriptP l).length:=⟨_,rfl⟩
 rw [← hn2] at hf2
 subst hf2
 try simp only [put_list,List.set]
 refine Drawn.only 8 (by kernel_rfl) rfl rfl (fun K' hK=>?_)
 refine wp_append_of (.tmp 91) (.tmp 94) 38 9 rfl Tryz.underlying38 _ 16 infoStr rfl (by omega) 0 (c.script.map encS) ((scriptP l).map encS) rfl MD.two.it.scr a2 n2 c2 rfl (by rw [List.length_map]; exact hn2) (own_src (by rw [hn2] at ho2; exact ho2)) (encS_one _) (by rw [List.length_map,List.length_map]; have:=HB.out; omega) (Nat.zero_le _) ?_
 intro v' W' q1 q2 q3
 rw [← List.map_append] at q1
 have hch:=chg_grown q2 q3
 have hN:=MD.two.it.newScript hch q1
 have hkp : ∀ k,k<VA.heap.size→((Value.slice ax ls cs).ownBlock=some k→False)→W'.heap[k]?=VA.heap[k]?:=fun k hk hn=>hch.block k hk hn
 have g1:=HDn.out _ MD
 have g2:=MD.two.it.cell
 have j1:=(hkp _ (lt_of g1) (fun e9=>(MD.ext _ (Or.inr rfl)).2.2.1 (Or.inr (Or.inr (Or.inr (Or.inl e9)))))).trans g1
 have j2:=(hkp _ (lt_of g2) (fun e9=>ty_ne (MD.two.it.ty.2.2.2.1 _ e9) MD.two.it.ty.2.1 (by decide))).trans g2
 have HR:=Lib.hid (MD.right hN.1.ob hN.2)
 obtain⟨a',c',hf⟩:=q1.form
 generalize ((c.script ++ scriptP l).map encS).length=n9 at hf
 subst hf
 have d2 : W'.cell? ⟨b',3,none⟩=some (.slice ax ls cs):=cell_of j2 3
 have d3:=free_of j2 3
 refine hK _ _ (fun _ _=>And.intro j1 j2) ?_
 have H5:=Lib.hid (And.intro j1 j2)
 clear hK K' q1 q2 q3 hch hN hkp g1 g2 j1 j2 MD HS HM2 ho2
 try simp only [put_list,List.set]
 refine Drawn.only 9 (by kernel_rfl) rfl rfl (fun K' hK=>?_)
 go_simp
 refine hK _ _ (fun _ _=>H5.out) ?_
 clear hK K'
 try simp only [put_list,List.set]
 refine Drawn.only 10 (by kernel_rfl) rfl rfl (fun K' hK=>?_)
 go_simp
 refine hK _ _ (fun _ _=>H5.out) ?_
 clear hK K'
 try simp only [put_list,List.set]
 refine Drawn.only 11 (by kernel_rfl) rfl rfl (fun K' hK=>?_)
 go_simp
 refine hK _ _ (fun h _=>by cases h) ?_
 clear hK K'
 refine Drawn.done (by kernel_rfl) ?_ _
 go_wp2_with fail
 go_ret
 have M8:=HR.out
 rw [HW0.out] at M8
 exact⟨rfl,_,_,_,_,_,_,_,_,HU.out.unbox M8⟩
end
end Go.Proofs.YtekoaheiapddiaaGreat.Dz
end
section
namespace Go.Proofs.YtekoaheiapddiaaGreat.Dz
open Go.RowKit
structure Hale (M:Nat) (p:Pd) (c:Cl) : Prop where
 ok : p.Ok
 kok : KOk c.known
 asked : c.asked.length≤3*M
 script : c.script.length≤40*(M+1)
 known : c.known.length≤131072+M
 few : p.L.length≤M
theorem Hale.fit {M : Nat} {p : Pd} {c : Cl} (h:Hale M p c) (hM:M≤300) : Fit 1000 p c:=⟨by have:=h.asked; omega,by have:=h.known; omega,by have:=h.few; omega⟩
theorem Hale.mono {M M' : Nat} {p : Pd} {c : Cl} (h:Hale M p c) (hM:M≤M') : Hale M' p c:=⟨h.ok,h.kok,by have:=h.asked; omega,by have:=h.script; omega,by have:=h.known; omega,by have:=h.few; omega⟩
theorem tries_script (a:AskP) (n:Nat) : ∀ c : Cl,(c.tries a n).2.script.length≤c.script.length:=by
 induction n with
 | zero=>exact fun c=>Nat.le_refl _
 | succ n ih=>
  intro c
  have h2:=ih ⟨c.known,c.script.tail,c.asked ++ [({ a with id:=c.asked.length+1 } : AskP).enc]⟩
  have h3 : c.script.tail.length≤c.script.length:=by rw [List.length_tail]; omega
  simp only at h2
  simp only [Cl.tries]
  cases hg : getR a.kind (c.script.headD []) with
  | none=>exact Nat.le_trans h2 h3
  | some r=>
   simp only
   by_cases hi : r.id=c.asked.length+1
   ·rw [if_pos hi]; exact h3
   ·rw [if_neg hi]; exact Nat.le_trans h2 h3
theorem Hale.ask {M : Nat} {p : Pd} {c : Cl} (h:Hale M p c) (name:Nm) {a : AskP} (ha:a.addr.length=20→a.Key) : Hale (M+1) (askP name p c a).2.1 (askP name p c a).2.2:=by
 have hself:=h.mono (Nat.le_succ M)
 unfold askP
 by_cases hl : a.addr.length≠20
 ·rw [if_pos hl]; exact hself
 ·rw [if_neg hl]
  have hk:=ha (by simpa using hl)
  cases hg : getK c.known a with
  | some r=>exact hself
  | none=>
   simp only
   obtain⟨h1,h2,h3⟩:=tries_known a 3 c
   have h4:=tries_script a 3 c
   have ha1:=h.asked
   have hs1:=h.script
   have hk1:=h.known
   have hf1:=h.few
   generalize ht : c.tries a 3=d at h1 h2 h3 h4
   obtain⟨o,k1,s1,q1⟩:=d
   simp only at h1 h2 h3 h4
   subst h1
   have b1 : q1.length≤3*(M+1):=by omega
   have b2 : s1.length≤40*(M+1+1):=by omega
   have b4 : c.known.length≤131072+(M+1):=by omega
   cases o with
   | none=>
    rw [learnP_none ht]
    exact⟨h.ok,h.kok,b1,b2,b4,Nat.le_succ_of_le hf1⟩
   | some r=>
    have hr:=h3 r rfl
    have hg:=gr_add h.ok name (recE a r)
    have hf : (p.add name (recE a r)).2.L.length≤M+1:=by have:=hg.len; omega
    have hpl:=putK_len c.known a r
    have b3 : (putK c.known a r).length≤131072+(M+1):=by omega
    by_cases h0 : (p.add name (recE a r)).1=0
    ·rw [learnP_ok ht h0]
     simp only
     exact⟨hg.ok,h.kok.put hk hr.1 hr.2.1 hr.2.2,b1,b2,b3,hf⟩
    ·rw [learnP_err ht h0]
     simp only
     exact⟨hg.ok,h.kok,b1,b2,b4,hf⟩
theorem Hale.deed {M : Nat} {p : Pd} {c : Cl} (h:Hale M p c) (k a s : Nat) (l:List ToldP) : Hale (M+1) (deedP p c k a s l).1 (deedP p c k a s l).2:=by
 have hw9 : s % 4<W256:=Nat.lt_of_lt_of_le (Nat.mod_lt _ (by omega)) (show 4≤W256 by decide)
 by_cases h1 : k % 5≤1
 ·rw [show deedP p c k a s l=(askP nmC p c ⟨0,addrP a,0,1⟩).2 by unfold deedP; rw [if_pos h1]]
  exact h.ask nmC fun hl=>key_of hl
 ·by_cases h3 : k % 5≤3
  ·rw [show deedP p c k a s l=(askP nmC p c ⟨0,addrP a,s % 4,2⟩).2 by unfold deedP; rw [if_neg h1,if_pos h3]]
   exact h.ask nmC fun hl=>key_slot hl hw9
  ·rw [show deedP p c k a s l=(p,{ c with script:=c.script ++ scriptP l }) by unfold deedP; rw [if_neg h1,if_neg h3]]
   have hpl : (scriptP l).length≤40:=by unfold scriptP; rw [scriptF_len,List.length_take]; exact Nat.min_le_left _ _
   have e1:=h.asked
   have e2:=h.script
   have e3:=h.known
   have e4:=h.few
   exact⟨h.ok,h.kok,by show c.asked.length≤_; omega,by show (c.script ++ scriptP l).length≤_; rw [List.length_append]; omega,by show c.known.length≤_; omega,by show p.L.length≤_; omega⟩
theorem Hale.anew {M : Nat} {p : Pd} {c : Cl} (h:Hale M p c) {t : List Nm} {r : Nm} (hF:Fs (bsE (getE p.L nmC)) t r) : Hale (M+1) p ⟨knownOf t,[],[]⟩:=
 ⟨h.ok,kok_known t,by simp,by simp,by have h1:=fs_len8 hF (bs_le h.ok nmC); have h2:=known_len t; simp only; omega,by have:=h.few; omega⟩
section
variable {p : Pd} {c : Cl} {X : Nat→Prop} {V0 W V V' : World} {N d b e b' m : Nat} {F : Nat→Prop} {sv av v cv sv' av' : Value}
theorem Tw2.anewL {I : World→Prop} {ft : Nat→Prop} {t : List Nm} {J : World→Prop} {gt : Nat→Prop} (h:Tw2 I ft J gt X V0 V) (hon:On p d N F V) (hft:∀ k,F k→ft k) (h3:CAt ⟨knownOf t,[],[]⟩ nmC d (V.heap.size+1) V.heap.size (.slice none 0 0) (.slice none 0 0) V') (h4:Below V.heap.size V V') :
  Tw2 (Bo p ⟨knownOf t,[],[]⟩ nmC d N F (V.heap.size+1) V.heap.size (.slice none 0 0) (.slice none 0 0)) (ftB F (V.heap.size+1) V.heap.size (.slice none 0 0) (.slice none 0 0)) J gt X V0 V':=by
 have hB:=(Am.again hon h3 h4).bo
 refine h.left hB.ob ⟨h4.os,h4.tape,h4.output,h4.size,fun k hk _=>h4.block k hk,fun k hk=>?_⟩
 rcases hk with hk | rfl | rfl | hk | hk
 ·exact Or.inl (hft k hk)
 ·exact Or.inr (by omega)
 ·exact Or.inr (Nat.le_refl _)
 ·cases hk
 ·cases hk
end
end Go.Proofs.YtekoaheiapddiaaGreat.Dz
end
section
namespace Go.Proofs.YtekoaheiapddiaaGreat.Dz
open Go.RowKit
theorem Tw2.start0 (w:World) : Tw2 (fun _=>True) (fun _=>False) (fun _=>True) (fun _=>False) (fun k=>k<w.heap.size) w w:=
 ⟨⟨trivial,fun _ h=>h.elim,fun _ _=>trivial⟩,⟨trivial,fun _ h=>h.elim,fun _ _=>trivial⟩,fun _ h=>h.elim,rfl,rfl,rfl,fun _ hk=>⟨hk,fun h=>h,fun h=>h,rfl⟩⟩
theorem On.ob {p : Pd} {d N : Nat} {F : Nat→Prop} {V : World} (h:On p d N F V) : Ob (On p d N F) F V:=⟨h,fun _ hk=>h.lt hk,fun _ hV=>h.kept hV⟩
theorem Rk.ob {p : Pd} {e : Nat} {v : Value} {V : World} (h:Rk p e v 0 V) : Ob (Rk p e v 0) (Rk.ft e v) V:=
 ⟨h,fun k hk=>hk.elim (fun e9=>by rw [e9]; exact lt_of h.cell) (fun e9=>(h.row.lt k e9).2),fun V hV=>h.kept (hV _ (Or.inl rfl)) (fun k hk=>hV k (Or.inr hk))⟩
theorem Tolds.kept {W V : World} {pa : Option Addr} {l : List ToldP} (h:Tolds W pa l) (hV:∀ k,k<W.heap.size→k<V.heap.size∧V.heap[k]?=W.heap[k]?) : Tolds V pa l:=by
 rcases h with h | ⟨g,o,e,hg,h⟩
 ·exact Or.inl h
 ·exact Or.inr ⟨g,o,e,(hV g hg).1,fun i t ht=>⟨(h i t ht).1,fun j hj=>(World.cell?_of_block (a:=⟨g,o+i*14+j,none⟩) (hV g hg).2).trans ((h i t ht).2 j hj)⟩⟩
structure Dd where
 k : Nat
 a : Nat
 s : Nat
 l : List ToldP
 pa : Option Addr
 pc : Nat
structure Dd.Ok (w:World) (u:Dd) : Prop where
 k : u.k<256
 a : u.a<256
 s : u.s<256
 len : u.l.length≤9000000000000000000
 told : Tolds w u.pa u.l
def DeedsIs (w:World) (pa:Option Addr) (l:List Dd) : Prop:=
 l=[]∨∃ g o,pa=some ⟨g,o,none⟩∧g<w.heap.size∧∀ (i:Nat) (u:Dd),l[i]?=some u→u.Ok w∧∀ j,j<4→w.cell? ⟨g,o+i*4+j,none⟩=(deedC u.k u.a u.s u.pa u.l.length u.pc)[j]?
theorem does_c {p : Pd} {c : Cl} {w W : World} {N d b e b' M : Nat} (h:Two p c (fun k=>k<w.heap.size) w N d b e b' W) (hH:Hale M p c) (hM:M≤300) (hN:N<800000) {u : Dd} (hu:u.Ok w) :
  Calls Tryz.prog 20 #[.pointer (some ⟨b,0,none⟩),.pointer (some ⟨b',0,none⟩),.agg (deedC u.k u.a u.s u.pa u.l.length u.pc)] W fun e1 W'=>DoesR (deedP p c u.k u.a u.s u.l).1 (deedP p c u.k u.a u.s u.l).2 (fun k=>k<w.heap.size) w (N+4) d b e b' e1 W':=by
 obtain⟨F,m,sv,av,v,cv,sv',av',hT⟩:=h
 have hf:=hH.fit hM
 rcases (by omega : u.k % 5=0∨u.k % 5=1∨u.k % 5=2∨u.k % 5=3∨u.k % 5=4) with h5 | h5 | h5 | h5 | h5
 ·exact does_acc0 hT hH.kok hH.ok hf (by omega) hu.a h5 u.l u.pa _ u.pc
 ·exact does_acc1 hT hH.kok hH.ok hf (by omega) hu.a h5 u.l u.pa _ u.pc
 ·exact does_slot2 hT hH.kok hH.ok hf (by omega) hu.a h5 u.l u.pa _ u.pc
 ·exact does_slot3 hT hH.kok hH.ok hf (by omega) hu.a h5 u.l u.pa _ u.pc
 ·refine (does_script hT (by have:=hH.script; omega) h5 u.l u.pa u.pc (fun V hV=>hu.told.kept hV) hu.len).mono ?_
  rintro e1 W' ⟨h1,F2,m2,sv2,av2,v2,cv2,sv3,av3,h2⟩
  exact⟨h1,F2,m2,sv2,av2,v2,cv2,sv3,av3,⟨(h2.one.it.mono (by omega)).ob,h2.two,h2.ap,h2.os,h2.tape,h2.output,h2.ext⟩⟩
theorem Tw2.on1 {p : Pd} {c : Cl} {J : World→Prop} {gt X : Nat→Prop} {V0 V : World} {N M d b m : Nat} {F : Nat→Prop} {sv av : Value} (h:Tw2 (Bo p c nmC d N F b m sv av) (ftB F b m sv av) J gt X V0 V) (hM:N≤M) : Tw2 (Bo p c nmC d M F b m sv av) (ftB F b m sv av) J gt X V0 V:=
 ⟨(h.one.it.mono hM).ob,h.two,h.ap,h.os,h.tape,h.output,h.ext⟩
set_option maxRecDepth 100000 in
set_option maxHeartbeats 8000000 in
theorem plays_c (room:Nat) (hr:room<65536) (after:Int) (ha:-9223372036854775808≤after∧after≤9223372036854775807) (l1:List ToldP) (pa1:Option Addr) (pc1:Nat) (l2:List Dd) (pa2:Option Addr) (pc2:Nat) (w:World) (hT:∀ V : World,(∀ k,k<w.heap.size→k<V.heap.size∧V.heap[k]?=w.heap[k]?)→Tolds V pa1 l1) (hl1:l1.length≤9000000000000000000) (hD:DeedsIs w pa2 l2) (hl2:l2.length≤9000000000000000000) :
  Calls Tryz.prog 3 #[.int .u16 room,.int .i64 after,.slice pa1 l1.length pc1,.slice pa2 l2.length pc2] w fun e1 W'=>e1=.returned (.bool true)∧Below w.heap.size w W':=by
 have hw : IntKind.i64.wrap (room:Int)=(room:Int):=IntWalk.i64_in _ (by omega)
 have HR:=Lib.hid (And.intro hr ha)
 have HT1:=Lib.hid (And.intro hT hl1)
 have hpl : (scriptP l1).length≤40:=by unfold scriptP; rw [scriptF_len,List.length_take]; exact Nat.min_le_left _ _
 have HPL:=Lib.hid hpl
 have HDS:=Lib.hid hD
 clear hr ha hT hl1 hpl hD
 generalize hln2 : l2.length=n2
 rw [hln2] at hl2
 have HL2:=Lib.hid hln2
 clear hln2
 generalize hln1 : l1.length=ln1
 have HLN1:=Lib.hid hln1
 clear hln1
 go_enter Tryz.func3,Tryz.ntmps3
 go_wp2_with fail
 refine (exam_c _).mono ?_
 rintro e1 V1 ⟨rfl,hb⟩
 have M1:=(Tw2.start0 w).call hb
 have HM1:=Lib.hid M1
 clear M1 hb
 go_wp2_with fail
 refine (on_new room (by have:=HR.out.1; omega) _).mono ?_
 rintro e1 V2 ⟨d,rfl,F2,h1,h2⟩
 have M2:=HM1.out.left h1.ob h2
 have HM2:=Lib.hid M2
 clear M2 h1 h2 HM1
 go_wp2_with fail
 refine (pnew_c (B:=0) room (by have:=HR.out.1; omega) _ (Nat.zero_le _)).mono ?_
 rintro e1 V3 ⟨rfl,h1,h2,h3⟩
 have M3:=HM2.out.right h1.ob (⟨h2.os,h2.tape,h2.output,h2.size,fun k hk _=>h2.block k hk,fun k hk=>Or.inr (hk.elim (fun e9=>by rw [e9]; exact Nat.le_refl _) (fun e9=>by cases e9))⟩ : Chg (fun _=>False) (Rk.ft V2.heap.size (.slice none 0 0)) V2 V3)
 obtain⟨e,he⟩ : ∃ e,e=V2.heap.size:=⟨_,rfl⟩
 rw [← he] at M3 ⊢
 have A1:=Lib.hid (M3.one.it.arm after 5 HR.out.2)
 have HM3:=Lib.hid M3
 clear M3 h1 h2 h3 HM2 he
 go_wp2_with fail
 refine A1.out.mono ?_
 rintro e1 V4 ⟨rfl,F4,h1,h2⟩
 have M4:=HM3.out.left h1.ob h2
 have A2:=Lib.hid (parm_c M4.two.it after 5)
 have HM4:=Lib.hid M4
 clear M4 h1 h2 HM3 A1
 go_wp2_with fail
 refine A2.out.mono ?_
 rintro e1 V5 ⟨rfl,h1,h2⟩
 have M5:=HM4.out.right h1.ob h2
 obtain⟨p0,hp0⟩ : ∃ p0,p0=({ Pd.new room with after:=after,torn:=5 } : Pd):=⟨_,rfl⟩
 rw [← hp0] at M5
 have hfs : Fs (bsE (getE p0.L nmC)) [] []:=by rw [hp0]; exact Fs.nil
 have hpok : p0.Ok:=M5.one.it.ok
 have A3:=Lib.hid (cnew_c (name:=nmC) M5.one.it (by show (1:Nat)≤maxLen; unfold maxLen; omega) hfs)
 have HM5:=Lib.hid M5
 have HP:=Lib.hid (And.intro hfs (And.intro hpok hp0))
 clear M5 h1 h2 HM4 A2 hfs hpok hp0
 go_wp2_with fail
 refine A3.out.mono ?_
 rintro e1 V6 ⟨rfl,h1,h2⟩
 have M6:=HM5.out.anewL HM5.out.one.it (fun _ hk=>hk) h1 h2
 obtain⟨b,hb⟩ : ∃ b,b=V5.heap.size+1:=⟨_,rfl⟩
 obtain⟨m,hm⟩ : ∃ m,m=V5.heap.size:=⟨_,rfl⟩
 rw [← hb,← hm] at M6
 rw [← hb]
 have A4:=Lib.hid (rnew_c (name:=nmC) M6.two.it HP.out.2.1 HP.out.1)
 have HM6:=Lib.hid M6
 clear M6 h1 h2 HM5 A3 hb hm
 go_wp2_with fail
 refine A4.out.mono ?_
 rintro e1 V7 ⟨b',cv,rfl,h1,h2⟩
 have M7:=HM6.out.right h1.ob (h2.wide (G:=Rk.ft e (.slice none 0 0)) (fun _ hk=>hk) (fun _ hk=>Or.inl hk))
 have HM7:=Lib.hid M7
 clear M7 h1 h2 HM6 A4
 have HTV:=Lib.hid (fun V {Pc Rc : World→Prop} {fc gc : Nat→Prop} (M:Tw2 Pc fc Rc gc (fun k=>k<w.heap.size) w V)=>(show Tolds V pa1 l1 from HT1.out.1 V fun k hk=>⟨(M.ext k hk).1,(M.ext k hk).2.2.2⟩))
 have SC:=Lib.hid (fun V (hV:Tolds V pa1 l1)=>script_c l1 pa1 pc1 V hV HT1.out.2)
 rw [HLN1.out] at SC
 have S1:=Lib.hid (SC.out _ (HTV.out _ HM7.out))
 go_wp2_with fail
 refine S1.out.mono ?_
 rintro e1 U1 ⟨v1,rfl,ho1,hb⟩
 have M1:=HM7.out.call hb
 obtain⟨a1,c1,hf1⟩:=ho1.form
 subst hf1
 have T1:=Lib.hid (script_m M1.one.it.at' (scriptP l1) a1 c1 (own_src ho1) (by have:=HPL.out; show 0+(scriptP l1).length≤_; omega))
 have HM1:=Lib.hid M1
 clear M1 ho1 hb S1 HM7
 generalize (scriptP l1).length=nl at T1 ⊢
 go_wp2_with fail
 refine T1.out.mono ?_
 rintro e1 U2 ⟨rfl,sv2,hA2,hC2⟩
 have hB2:=HM1.out.one.it.client hA2 hC2
 have M2:=HM1.out.left hB2.1.ob hB2.2
 clear T1 hA2 hC2 hB2
 have HM2:=Lib.hid M2
 clear M2 HM1
 go_upto_region 15 with fail
 have MD:=HM2.out.call (Below.refl _ _).drew
 have HS:=Lib.hid (fun (V:World) (hV:V.heap[b']?=some (.cells (cellsR e nmC cv (.slice none 0 0) (.slice none 0 0) 1) 43 (0,0)))=>(show V.cell? ⟨b',3,none⟩=some (.slice none 0 0) from cell_of hV 3))
 have H0:=MD.two.it.cell
 refine Drawn.start (fun V=>V.heap[b']?=some (.cells (cellsR e nmC cv (.slice none 0 0) (.slice none 0 0) 1) 43 (0,0))) (fun j=>j == 10) (by kernel_rfl) ?_
 generalize World.drew _=V9 at MD H0 ⊢
 refine Drawn.tk 0 (some 57) (v:=?_) rfl rfl (by kernel_rfl) rfl (fun _ _ _ h=>h) (Or.inl ⟨rfl,?_⟩) H0 ?_
 rotate_left
 ·intro W hW; have hW:=HS.out W hW; go_simp; try with_reducible rfl
 simp only [put_list,List.set]
 refine Drawn.tk 1 (some 58) (v:=?_) rfl rfl (by kernel_rfl) rfl (fun _ _ _ h=>h) (Or.inl ⟨rfl,?_⟩) H0 ?_
 rotate_left
 ·intro W hW; have hW:=HS.out W hW; go_simp; try with_reducible rfl
 simp only [put_list,List.set]
 refine Drawn.tk 2 (some 59) (v:=?_) rfl rfl (by kernel_rfl) rfl (fun _ _ _ h=>h) (Or.inl ⟨rfl,?_⟩) H0 ?_
 rotate_left
 ·intro W hW; have hW:=HS.out W hW; go_simp; try with_reducible rfl
 simp only [put_list,List.set]
 refine Drawn.tk 3 (some 60) (v:=?_) rfl rfl (by kernel_rfl) rfl (fun _ _ _ h=>h) (Or.inl ⟨rfl,?_⟩) H0 ?_
 rotate_left
 ·intro W hW; have hW:=HS.out W hW; go_simp; try with_reducible rfl
 simp only [put_list,List.set]
 refine Drawn.tk 4 (some 61) (v:=?_) rfl rfl (by kernel_rfl) rfl (fun _ _ _ h=>h) (Or.inl ⟨rfl,?_⟩) H0 ?_
 rotate_left
 ·intro W hW; have hW:=HS.out W hW; go_simp; try with_reducible rfl
 simp only [put_list,List.set]
 refine Drawn.tk 5 (some 62) (v:=?_) rfl rfl (by kernel_rfl) rfl (fun _ _ _ h=>h) (Or.inl ⟨rfl,?_⟩) H0 ?_
 rotate_left
 ·intro W hW; have hW:=HS.out W hW; go_simp; try with_reducible rfl
 simp only [put_list,List.set]
 refine Drawn.only 6 (by kernel_rfl) rfl rfl (fun K' hK=>?_)
 have S2:=SC.out _ (HTV.out _ MD)
 go_simp
 refine S2.mono ?_
 rintro e1 VA ⟨v2,rfl,ho2,hb⟩
 replace MD:=MD.call hb
 refine hK _ _ (fun _ _=>MD.two.it.cell) ?_
 clear hK K' H0 hb S2
 obtain⟨a2,c2,hf2⟩:=ho2.form
 obtain⟨n3,hn3⟩ : ∃ n3,n3=(scriptP l1).length:=⟨_,rfl⟩
 rw [← hn3] at hf2
 subst hf2
 try simp only [put_list,List.set]
 refine Drawn.only 7 (by kernel_rfl) rfl rfl (fun K' hK=>?_)
 refine wp_append_of (.tmp 61) (.tmp 63) 38 9 rfl Tryz.underlying38 _ 16 infoStr rfl (by omega) 0 ([].map encS) ((scriptP l1).map encS) rfl MD.two.it.scr a2 n3 c2 rfl (by rw [List.length_map]; exact hn3) (own_src (by rw [hn3] at ho2; exact ho2)) (encS_one _) (by rw [List.length_map,List.length_map]; have:=HPL.out; simp only [List.length_nil]; omega) (Nat.zero_le _) ?_
 intro v' W' q1 q2 q3
 rw [← List.map_append,List.nil_append] at q1
 have hch:=chg_grown q2 q3
 have hN:=MD.two.it.newScript hch q1
 have g2:=MD.two.it.cell
 have j2:=(hch.block _ (lt_of g2) (fun e9=>by cases e9)).trans g2
 have HR2:=Lib.hid (MD.right hN.1.ob hN.2)
 obtain⟨a',c',hf⟩:=q1.form
 generalize ((scriptP l1).map encS).length=n9 at hf
 subst hf
 have d2 : W'.cell? ⟨b',3,none⟩=some (.slice none 0 0):=cell_of j2 3
 have d3:=free_of j2 3
 refine hK _ _ (fun _ _=>j2) ?_
 have H5:=Lib.hid j2
 clear hK K' q1 q2 q3 hch hN g2 j2 MD HS HM2 ho2
 try simp only [put_list,List.set]
 refine Drawn.only 8 (by kernel_rfl) rfl rfl (fun K' hK=>?_)
 go_simp
 refine hK _ _ (fun _ _=>H5.out) ?_
 clear hK K'
 try simp only [put_list,List.set]
 refine Drawn.only 9 (by kernel_rfl) rfl rfl (fun K' hK=>?_)
 go_simp
 refine hK _ _ (fun _ _=>H5.out) ?_
 clear hK K'
 try simp only [put_list,List.set]
 refine Drawn.only 10 (by kernel_rfl) rfl rfl (fun K' hK=>?_)
 go_simp
 refine hK _ _ (fun h _=>by cases h) ?_
 clear hK K'
 refine Drawn.done (by kernel_rfl) ?_ _
 generalize World.setCell _ _ _=V10 at HR2 ⊢
 have HZ:=Lib.hid (show ∃ c0,Hale 0 p0 c0∧Two p0 c0 (fun k=>k<w.heap.size) w 4 d b e b' V10 from⟨⟨[],scriptP l1,[]⟩,⟨HP.out.2.1,KOk.nil,Nat.zero_le _,HPL.out,Nat.zero_le _,by rw [HP.out.2.2]; exact Nat.zero_le _⟩,_,_,_,_,_,_,_,_,HR2.out.on1 (by omega)⟩)
 clear HR2 H5 d2 d3
 clear HTV SC HP HT1 HPL HLN1
 go_wp2_with fail
 go_loopw [13,14,15] (fun cp xp i wr=>∃ (k b b' N : Nat) (p:Pd) (c:Cl),i=.int .i64 k∧k≤n2∧k≤40∧cp=.pointer (some ⟨b,0,none⟩)∧xp=.pointer (some ⟨b',0,none⟩)∧N≤4+4*k∧Hale k p c∧Two p c (fun k=>k<w.heap.size) w N d b e b' wr) (fun _ _ i _=>40-(intOf i).toNat)
 case atStart=>
  obtain⟨c0,h1,h2⟩:=HZ.out
  exact⟨0,b,b',4,p0,c0,rfl,by omega,by omega,rfl,rfl,by omega,h1,h2⟩
 case round=>
  clear HZ
  obtain⟨k,b,b',N,p,c,rfl,hk,hk40,rfl,rfl,hN,hH,hT⟩:=hrel
  by_cases hlt : k<n2
  ·by_cases hl4 : k<40
   ·obtain⟨u,hu⟩ : ∃ u,l2[k]?=some u:=⟨_,List.getElem?_eq_getElem (by rw [HL2.out]; exact hlt)⟩
    rcases HDS.out with hnil | ⟨g,o,rfl,hg,hcell⟩
    ·rw [hnil] at hu; cases hu
    obtain⟨huo,hc⟩:=hcell k u hu
    obtain⟨F,m,sv,av,v,cv,sv',av',hTw⟩:=hT
    have hgb:=(hTw.ext g hg).2.2.2
    have hcw : ∀ j,j<4→wr.cell? ⟨g,o+k*4+j,none⟩=(deedC u.k u.a u.s u.pa u.l.length u.pc)[j]?:=fun j hj=>(World.cell?_of_block (a:=⟨g,o+k*4+j,none⟩) hgb).trans (hc j hj)
    have x0 : wr.cell? ⟨g,o+k*4,none⟩=some (.int .u8 u.k):=hcw 0 (by omega)
    have x1 : wr.cell? ⟨g,o+k*4+1,none⟩=some (.int .u8 u.a):=hcw 1 (by omega)
    have x2 : wr.cell? ⟨g,o+k*4+2,none⟩=some (.int .u8 u.s):=hcw 2 (by omega)
    have x3 : wr.cell? ⟨g,o+k*4+3,none⟩=some (.slice u.pa u.l.length u.pc):=hcw 3 (by omega)
    have hlti : (k:Int)<(n2:Int):=by omega
    have hl4i : (k:Int)<40:=by omega
    have hk0 : (0:Int)≤(k:Int):=by omega
    have hw : IntKind.i64.wrap ((k:Int)+1)=(k:Int)+1:=IntWalk.i64_in _ (by omega)
    have HK:=Lib.hid (And.intro hH (And.intro hN (And.intro hlt (And.intro hl4 huo))))
    have HTw:=Lib.hid hTw
    obtain⟨k6,hk6⟩ : ∃ k6 : Nat,(u.k : Int) % 6=(k6:Int)∧k6<6:=⟨u.k % 6,by omega,by omega⟩
    obtain⟨hk6,hk6l⟩:=hk6
    clear hTw hgb hcw hc huo hN hH hlt hl4 hk hk40 hcell hu
    by_cases h5 : k6=5
    ·subst h5
     obtain⟨t,r,hF⟩:=Fs.exist (bsE (getE p.L nmC))
     have A3:=Lib.hid (cnew_c (name:=nmC) HTw.out.one.it.on (by show (1:Nat)≤maxLen; unfold maxLen; omega) hF)
     have HF:=Lib.hid hF
     clear hF
     go_wp2_with fail
     refine A3.out.mono ?_
     rintro e1 U1 ⟨rfl,h1,h2⟩
     have M6:=HTw.out.anewL HTw.out.one.it.on (fun _ hk=>Or.inl hk) h1 h2
     obtain⟨b9,hb9⟩ : ∃ b,b=wr.heap.size+1:=⟨_,rfl⟩
     obtain⟨m9,hm9⟩ : ∃ m,m=wr.heap.size:=⟨_,rfl⟩
     rw [← hb9,← hm9] at M6
     rw [← hb9]
     have A4:=Lib.hid (rnew_c (name:=nmC) M6.two.it.rk HK.out.1.ok HF.out)
     have HM6:=Lib.hid M6
     clear M6 h1 h2 A3 hb9 hm9
     go_wp2_with fail
     refine A4.out.mono ?_
     rintro e1 U2 ⟨b8,cv8,rfl,h1,h2⟩
     have M7:=HM6.out.right h1.ob (h2.wide (fun _ hk=>Or.inl hk) (fun _ hk=>Or.inl hk))
     have HM7:=Lib.hid M7
     clear M7 h1 h2 HM6 A4
     go_wp2_with fail
     exact⟨⟨k+1,b9,b8,N,p,⟨knownOf t,[],[]⟩,by go_num,by have:=HK.out.2.2.1; omega,by have:=HK.out.2.2.2.1; omega,rfl,rfl,by have:=HK.out.2.1; omega,HK.out.1.anew HF.out,_,_,_,_,_,_,_,_,HM7.out⟩,by have:=HK.out.2.2.2.1; simp [intOf]; omega⟩
    ·have h5i : ¬ (k6:Int)=5:=by omega
     have DC:=does_c (M:=k) ⟨_,_,_,_,_,_,_,_,HTw.out⟩ HK.out.1 (by have:=HK.out.2.2.2.1; omega) (by have:=HK.out.2.1; have:=HK.out.2.2.2.1; omega) HK.out.2.2.2.2
     have hH2:=HK.out.1.deed u.k u.a u.s u.l
     generalize (deedP p c u.k u.a u.s u.l).1=p2 at DC hH2
     generalize (deedP p c u.k u.a u.s u.l).2=c2 at DC hH2
     unfold deedC at DC
     have HDC:=Lib.hid DC
     have HH2:=Lib.hid hH2
     clear DC hH2
     go_wp2_with fail
     refine HDC.out.mono ?_
     rintro e1 U1 ⟨rfl,F2,m2,sv2,av2,v2,cv2,sv3,av3,M3⟩
     clear HDC HTw x0 x1 x2 x3
     have AK:=Lib.hid (asked_c M3.one.it.at' (by have:=HH2.out.asked; have:=HK.out.2.2.2.1; omega))
     have HM3:=Lib.hid M3
     clear M3
     go_wp2_with fail
     refine AK.out.mono ?_
     rintro e1 U2 ⟨v9,rfl,ho9,hb9⟩
     have M4:=HM3.out.call hb9
     obtain⟨a9,c9,hf9⟩:=ho9.form
     obtain⟨n9,hn9⟩ : ∃ n,n=c2.asked.length:=⟨_,rfl⟩
     rw [← hn9] at hf9
     subst hf9
     obtain⟨ac,cc,hcf⟩:=row_form M4.two.it.cache
     obtain⟨as',cs,hsf⟩:=M4.two.it.scr.form
     obtain⟨aa,ca,haf⟩:=M4.two.it.ask.form
     rw [List.length_map] at hsf
     obtain⟨nk,hnk⟩ : ∃ n,n=c2.known.length:=⟨_,rfl⟩
     obtain⟨ns,hns⟩ : ∃ n,n=c2.script.length:=⟨_,rfl⟩
     rw [← hnk] at hcf
     rw [← hns] at hsf
     rw [← hn9] at haf
     subst hcf hsf haf
     have KN:=Lib.hid (fun V (h:CAt c2 nmC d b m2 sv2 av2 V)=>known_c h)
     have LF:=Lib.hid (fun V (h:CAt c2 nmC d b m2 sv2 av2 V)=>left_c h)
     rw [← hnk] at KN
     rw [← hns] at LF
     have HQ:=Lib.hid (And.intro ho9 (And.intro hn9 (M4.two.it.ask)))
     have HM4:=Lib.hid M4
     clear HM3 AK hb9 hnk hns hn9 ho9 M4
     go_upto_region 26 with fail
     have MD:=HM4.out.call (Below.refl _ _).drew
     have HS:=Lib.hid (fun (V:World) (hV:V.heap[b']?=some (.cells (cellsR e nmC (.slice ac nk cc) (.slice as' ns cs) (.slice aa n9 ca) (c2.asked.length+1)) 43 (0,0)))=>And.intro (show V.cell? ⟨b',2,none⟩=some (.slice ac nk cc) from cell_of hV 2) (And.intro (show V.cell? ⟨b',3,none⟩=some (.slice as' ns cs) from cell_of hV 3) (show V.cell? ⟨b',4,none⟩=some (.slice aa n9 ca) from cell_of hV 4)))
     have H0:=MD.two.it.cell
     have hU2 : ∀ k : Nat,U2.drew.heap[k]?=U2.heap[k]?:=fun _=>rfl
     refine Drawn.start (fun V=>V.heap[b']?=some (.cells (cellsR e nmC (.slice ac nk cc) (.slice as' ns cs) (.slice aa n9 ca) (c2.asked.length+1)) 43 (0,0))) (fun _=>false) (by kernel_rfl) ?_
     generalize World.drew U2=V9 at MD H0 hU2 ⊢
     refine Drawn.tk 0 (some 99) (v:=?_) rfl rfl (by kernel_rfl) rfl (fun _ _ _ h=>h) (Or.inl ⟨rfl,?_⟩) H0 ?_
     rotate_left
     ·intro W hW; have hW:=HS.out W hW; go_simp; try with_reducible rfl
     simp only [put_list,List.set]
     refine Drawn.tk 1 (some 100) (v:=?_) rfl rfl (by kernel_rfl) rfl (fun _ _ _ h=>h) (Or.inl ⟨rfl,?_⟩) H0 ?_
     rotate_left
     ·intro W hW; have hW:=HS.out W hW; go_simp; try with_reducible rfl
     simp only [put_list,List.set]
     refine Drawn.tk 2 (some 101) (v:=?_) rfl rfl (by kernel_rfl) rfl (fun _ _ _ h=>h) (Or.inl ⟨rfl,?_⟩) H0 ?_
     rotate_left
     ·intro W hW; have hW:=HS.out W hW; go_simp; try with_reducible rfl
     simp only [put_list,List.set]
     refine Drawn.tk 3 (some 102) (v:=?_) rfl rfl (by kernel_rfl) rfl (fun _ _ _ h=>h) (Or.inl ⟨rfl,?_⟩) H0 ?_
     rotate_left
     ·intro W hW; have hW:=HS.out W hW; go_simp; try with_reducible rfl
     simp only [put_list,List.set]
     refine Drawn.tk 5 (some 104) (v:=?_) rfl rfl (by kernel_rfl) rfl (fun _ _ _ h=>h) (Or.inl ⟨rfl,?_⟩) H0 ?_
     rotate_left
     ·intro W hW; have hW:=HS.out W hW; go_simp; try with_reducible rfl
     simp only [put_list,List.set]
     refine Drawn.tk 6 (some 105) (v:=?_) rfl rfl (by kernel_rfl) rfl (fun _ _ _ h=>h) (Or.inl ⟨rfl,?_⟩) H0 ?_
     rotate_left
     ·intro W hW; have hW:=HS.out W hW; go_simp; try with_reducible rfl
     simp only [put_list,List.set]
     refine Drawn.tk 7 (some 106) (v:=?_) rfl rfl (by kernel_rfl) rfl (fun _ _ _ h=>h) (Or.inl ⟨rfl,?_⟩) H0 ?_
     rotate_left
     ·intro W hW; have hW:=HS.out W hW; go_simp; try with_reducible rfl
     simp only [put_list,List.set]
     refine Drawn.tk 8 (some 107) (v:=?_) rfl rfl (by kernel_rfl) rfl (fun _ _ _ h=>h) (Or.inl ⟨rfl,?_⟩) H0 ?_
     rotate_left
     ·intro W hW; have hW:=HS.out W hW; go_simp; try with_reducible rfl
     simp only [put_list,List.set]
     refine Drawn.tk 9 (some 108) (v:=?_) rfl rfl (by kernel_rfl) rfl (fun _ _ _ h=>h) (Or.inl ⟨rfl,?_⟩) H0 ?_
     rotate_left
     ·intro W hW; have hW:=HS.out W hW; go_simp; try with_reducible rfl
     simp only [put_list,List.set]
     refine Drawn.only 4 (by kernel_rfl) rfl rfl (fun K' hK=>?_)
     go_simp
     refine (KN.out _ MD.one.it.at').mono ?_
     rintro e1 VA ⟨rfl,rfl⟩
     refine hK _ _ (fun _ _=>H0) ?_
     clear hK K'
     try simp only [put_list,List.set]
     refine Drawn.tk 10 (some 109) (v:=?_) rfl rfl (by kernel_rfl) rfl (fun _ _ _ h=>h) (Or.inl ⟨rfl,?_⟩) H0 ?_
     rotate_left
     ·intro W hW; have hW:=HS.out W hW; go_simp; try with_reducible rfl
     simp only [put_list,List.set]
     refine Drawn.tk 11 (some 110) (v:=?_) rfl rfl (by kernel_rfl) rfl (fun _ _ _ h=>h) (Or.inl ⟨rfl,?_⟩) H0 ?_
     rotate_left
     ·intro W hW; have hW:=HS.out W hW; go_simp; try with_reducible rfl
     simp only [put_list,List.set]
     refine Drawn.tk 12 (some 111) (v:=?_) rfl rfl (by kernel_rfl) rfl (fun _ _ _ h=>h) (Or.inl ⟨rfl,?_⟩) H0 ?_
     rotate_left
     ·intro W hW; have hW:=HS.out W hW; go_simp; try with_reducible rfl
     simp only [put_list,List.set]
     refine Drawn.tk 13 (some 112) (v:=?_) rfl rfl (by kernel_rfl) rfl (fun _ _ _ h=>h) (Or.inl ⟨rfl,?_⟩) H0 ?_
     rotate_left
     ·intro W hW; have hW:=HS.out W hW; go_simp; try with_reducible rfl
     simp only [put_list,List.set]
     refine Drawn.tk 15 (some 114) (v:=?_) rfl rfl (by kernel_rfl) rfl (fun _ _ _ h=>h) (Or.inl ⟨rfl,?_⟩) H0 ?_
     rotate_left
     ·intro W hW; have hW:=HS.out W hW; go_simp; try with_reducible rfl
     simp only [put_list,List.set]
     refine Drawn.tk 16 (some 115) (v:=?_) rfl rfl (by kernel_rfl) rfl (fun _ _ _ h=>h) (Or.inl ⟨rfl,?_⟩) H0 ?_
     rotate_left
     ·intro W hW; have hW:=HS.out W hW; go_simp; try with_reducible rfl
     simp only [put_list,List.set]
     refine Drawn.tk 17 (some 116) (v:=?_) rfl rfl (by kernel_rfl) rfl (fun _ _ _ h=>h) (Or.inl ⟨rfl,?_⟩) H0 ?_
     rotate_left
     ·intro W hW; have hW:=HS.out W hW; go_simp; try with_reducible rfl
     simp only [put_list,List.set]
     refine Drawn.tk 18 (some 117) (v:=?_) rfl rfl (by kernel_rfl) rfl (fun _ _ _ h=>h) (Or.inl ⟨rfl,?_⟩) H0 ?_
     rotate_left
     ·intro W hW; have hW:=HS.out W hW; go_simp; try with_reducible rfl
     simp only [put_list,List.set]
     refine Drawn.tk 19 (some 118) (v:=?_) rfl rfl (by kernel_rfl) rfl (fun _ _ _ h=>h) (Or.inl ⟨rfl,?_⟩) H0 ?_
     rotate_left
     ·intro W hW; have hW:=HS.out W hW; go_simp; try with_reducible rfl
     simp only [put_list,List.set]
     refine Drawn.only 14 (by kernel_rfl) rfl rfl (fun K' hK=>?_)
     go_simp
     refine (LF.out _ MD.one.it.at').mono ?_
     rintro e1 VA ⟨rfl,rfl⟩
     refine hK _ _ (fun _ _=>H0) ?_
     clear hK K'
     try simp only [put_list,List.set]
     refine Drawn.tk 20 (some 119) (v:=?_) rfl rfl (by kernel_rfl) rfl (fun _ _ _ h=>h) (Or.inl ⟨rfl,?_⟩) H0 ?_
     rotate_left
     ·intro W hW; have hW:=HS.out W hW; go_simp; try with_reducible rfl
     simp only [put_list,List.set]
     refine Drawn.tk 21 (some 120) (v:=?_) rfl rfl (by kernel_rfl) rfl (fun _ _ _ h=>h) (Or.inl ⟨rfl,?_⟩) H0 ?_
     rotate_left
     ·intro W hW; have hW:=HS.out W hW; go_simp; try with_reducible rfl
     simp only [put_list,List.set]
     refine Drawn.tk 22 (some 121) (v:=?_) rfl rfl (by kernel_rfl) rfl (fun _ _ _ h=>h) (Or.inl ⟨rfl,?_⟩) H0 ?_
     rotate_left
     ·intro W hW; have hW:=HS.out W hW; go_simp; try with_reducible rfl
     simp only [put_list,List.set]
     refine Drawn.tk 23 (some 122) (v:=?_) rfl rfl (by kernel_rfl) rfl (fun _ _ _ h=>h) (Or.inl ⟨rfl,?_⟩) H0 ?_
     rotate_left
     ·intro W hW; have hW:=HS.out W hW; go_simp; try with_reducible rfl
     simp only [put_list,List.set]
     refine Drawn.tk 24 (some 123) (v:=?_) rfl rfl (by kernel_rfl) rfl (fun _ _ _ h=>h) (Or.inl ⟨rfl,?_⟩) H0 ?_
     rotate_left
     ·intro W hW; have hW:=HS.out W hW; go_simp; try with_reducible rfl
     simp only [put_list,List.set]
     refine Drawn.tk 25 (some 124) (v:=?_) rfl rfl (by kernel_rfl) rfl (fun _ _ _ h=>h) (Or.inl ⟨rfl,?_⟩) H0 ?_
     rotate_left
     ·intro W hW; have hW:=HS.out W hW; go_simp; try with_reducible rfl
     simp only [put_list,List.set]
     refine Drawn.tk 26 (some 125) (v:=?_) rfl rfl (by kernel_rfl) rfl (fun _ _ _ h=>h) (Or.inl ⟨rfl,?_⟩) H0 ?_
     rotate_left
     ·intro W hW; have hW:=HS.out W hW; go_simp; try with_reducible rfl
     simp only [put_list,List.set]
     refine Drawn.tk 27 (some 126) (v:=?_) rfl rfl (by kernel_rfl) rfl (fun _ _ _ h=>h) (Or.inl ⟨rfl,?_⟩) H0 ?_
     rotate_left
     ·intro W hW; have hW:=HS.out W hW; go_simp; try with_reducible rfl
     simp only [put_list,List.set]
     refine Drawn.tk 28 (some 127) (v:=?_) rfl rfl (by kernel_rfl) rfl (fun _ _ _ h=>h) (Or.inl ⟨rfl,?_⟩) H0 ?_
     rotate_left
     ·intro W hW; have hW:=HS.out W hW; go_simp; try with_reducible rfl
     simp only [put_list,List.set]
     refine Drawn.tk 29 (some 128) (v:=?_) rfl rfl (by kernel_rfl) rfl (fun _ _ _ h=>h) (Or.inl ⟨rfl,?_⟩) H0 ?_
     rotate_left
     ·intro W hW; have hW:=HS.out W hW; go_simp; try with_reducible rfl
     simp only [put_list,List.set]
     refine Drawn.tk 30 (some 129) (v:=?_) rfl rfl (by kernel_rfl) rfl (fun _ _ _ h=>h) (Or.inl ⟨rfl,?_⟩) H0 ?_
     rotate_left
     ·intro W hW; have hW:=HS.out W hW; go_simp; try with_reducible rfl
     simp only [put_list,List.set]
     refine Drawn.tk 31 (some 130) (v:=?_) rfl rfl (by kernel_rfl) rfl (fun _ _ _ h=>h) (Or.inl ⟨rfl,?_⟩) H0 ?_
     rotate_left
     ·intro W hW; have hW:=HS.out W hW; go_simp; try with_reducible rfl
     simp only [put_list,List.set]
     refine Drawn.done (by kernel_rfl) ?_ _
     have o1 : OwnS U1.heap.size c2.asked (.slice a9 n9 c9) VA:=own_keep HQ.out.1 fun k _=>hU2 k
     have o2 : OwnS 0 c2.asked (.slice aa n9 ca) VA:=own_keep HQ.out.2.2 fun k _=>hU2 k
     have hn9l : n9≤1000:=by have:=HQ.out.2.1; have:=HH2.out.asked; have:=HK.out.2.2.2.1; omega
     have HO:=Lib.hid (And.intro o1 o2)
     have HMD:=Lib.hid MD
     have HC:=Lib.hid H0
     clear o1 o2 MD H0 hU2 HS KN LF HM4
     go_wp2_with fail
     go_loopw [18] (fun i wr2=>∃ j : Nat,i=.int .i64 j∧j≤n9∧Below VA.heap.size VA wr2) (fun i _=>n9-(intOf i).toNat)
     case atStart=>exact⟨0,rfl,by omega,Below.refl _ _⟩
     case round=>
      obtain⟨j,rfl,hj,hbw⟩:=hrel
      by_cases hjl : j<n9
      ·obtain⟨t,ht⟩ : ∃ t,c2.asked[j]?=some t:=⟨_,List.getElem?_eq_getElem (by have:=HQ.out.2.1; omega)⟩
       have hcl : ∀ {B : Nat} {a0 : Option Addr} {c0 : Nat},OwnS B c2.asked (.slice a0 n9 c0) VA→∃ g,a0=some ⟨g,0,none⟩∧wr.cell? ⟨g,j,none⟩=some (.string (str t)):=fun {B a0 c0} h=>by
        rcases h.2 with ⟨_,h0⟩ | ⟨g,cap,cur,hv,_,hg,_⟩
        ·have:=HQ.out.2.1; omega
        ·have ha : a0=some ⟨g,0,none⟩:=by injection hv
         refine⟨g,ha,?_⟩
         subst ha
         have h1 : (c2.asked.map encS)[j]?=some (.string (str t)):=by rw [List.getElem?_map,ht]; rfl
         have h2:=h.cells (g:=g) rfl j _ h1
         have e0 : (⟨g,0,none⟩ : Addr).add j=⟨g,j,none⟩:=by unfold Addr.add; split <;> simp_all
         rw [e0] at h2
         exact (World.cell?_of_block (a:=⟨g,j,none⟩) (hbw.block g (lt_of hg))).trans h2
       obtain⟨g1,rfl,z1⟩:=hcl HO.out.1
       obtain⟨g2,rfl,z2⟩:=hcl HO.out.2
       have z3 : wr.cell? ⟨b',4,none⟩=some (.slice (some ⟨g2,0,none⟩) n9 ca):=(World.cell?_of_block (a:=⟨b',4,none⟩) (hbw.block b' (lt_of HC.out))).trans (cell_of HC.out 4)
       have hji : (j:Int)<(n9:Int):=by omega
       have hj0 : (0:Int)≤(j:Int):=by omega
       have hwj : IntKind.i64.wrap ((j:Int)+1)=(j:Int)+1:=IntWalk.i64_in _ (by omega)
       have HJ:=Lib.hid (And.intro hbw hjl)
       clear hbw hjl hj ht hcl
       go_wp2_with fail
       go_quiet (fail)
       go_wp2_with fail
       exact⟨⟨j+1,by go_num,by have:=HJ.out.2; omega,HJ.out.1.trans ((bel_drewN _ _).mono HJ.out.1.size)⟩,by have:=HJ.out.2; simp [intOf]; omega⟩
      ·obtain rfl : j=n9:=by omega
       have hji : ¬ ((j:Nat) : Int)<(j:Int):=by omega
       have HJ:=Lib.hid hbw
       clear hbw hjl hj
       go_wp2_with fail
       exact⟨⟨k+1,b,b',N+4,p2,c2,by go_num,by have:=HK.out.2.2.1; omega,by have:=HK.out.2.2.2.1; omega,rfl,rfl,by have:=HK.out.2.1; omega,HH2.out,_,_,_,_,_,_,_,_,HMD.out.call HJ.out⟩,by have:=HK.out.2.2.2.1; simp [intOf]; omega⟩
   ·obtain rfl : k=40:=by omega
    have hlti : ((40:Nat) : Int)<(n2:Int):=by omega
    obtain⟨F,m,sv,av,v,cv,sv',av',hTw⟩:=hT
    have HB:=Lib.hid (show Below w.heap.size w wr from⟨hTw.os,hTw.tape,hTw.output,Nat.le_of_not_lt (fun h=>by have:=(hTw.ext wr.heap.size h).1; omega),fun k hk=>(hTw.ext k hk).2.2.2⟩)
    clear hTw hk hk40 hlt hl4
    go_wp2_with fail
    go_ret
    exact⟨rfl,HB.out⟩
  ·obtain rfl : k=n2:=by omega
   have hlti : ¬ ((k:Nat) : Int)<(k:Int):=by omega
   obtain⟨F,m,sv,av,v,cv,sv',av',hTw⟩:=hT
   have HB:=Lib.hid (show Below w.heap.size w wr from⟨hTw.os,hTw.tape,hTw.output,Nat.le_of_not_lt (fun h=>by have:=(hTw.ext wr.heap.size h).1; omega),fun k hk=>(hTw.ext k hk).2.2.2⟩)
   clear hTw hk hk40 hlt
   go_wp2_with fail
   go_ret
   exact⟨rfl,HB.out⟩
end Go.Proofs.YtekoaheiapddiaaGreat.Dz
end
section
set_option maxRecDepth 100000
namespace Go.Proofs.YtekoaheiapddiaaGreat.Dz
open Go.ChangeShapes Go.WideShapes Go.ChangeAt Go.RowKit Go.Deep Go.Joins
section
variable {H : Type} {enc : TypeId×Value→H} {w : World} {base : Nat} {held : Bool}
theorem weights_all' {P : Program} {e : TypeId} {l : List (DataW H)} {d : DataW H} (hd:d∈l) {n : Nat} (hn:n∈d.weights P e) : n∈DataW.weightsAll P e l:=by
 induction l with
 | nil=>cases hd
 | cons x l ih=>
  simp only [DataW.weightsAll,List.mem_append]
  rcases List.mem_cons.1 hd with rfl | hd
  ·exact Or.inl hn
  ·exact Or.inr (ih hd)
def RowsIs {α : Type} (w:World) (n:Nat) (cells:α→List Value) (Ok:α→Prop) (pa:Option Addr) (l:List α) : Prop:=
 l=[]∨∃ g o,pa=some ⟨g,o,none⟩∧g<w.heap.size∧∀ (i:Nat) (u:α),l[i]?=some u→Ok u∧∀ j,j<n→w.cell? ⟨g,o+i*n+j,none⟩=(cells u)[j]?
theorem open_rowsT {St T : TypeId} {n : Nat} {α : Type} [Inhabited α] (hu:Tryz.prog.underlying St=some (.slice T)) (hn:Tryz.prog.cellsOf T=n) (h0n:0<n) (hb:0<Tryz.prog.bytesOf T) (cells:α→List Value) (Ok:α→Prop)
  {fuel : Nat} {cs : List Value} {d : DataW H} {p : List MemPlace} (h:DataW.trod enc Tryz.prog w base (fun _=>true) held fuel St cs=some (d,p)) (hz:∀ x∈d.weights Tryz.prog St,x≤reachBytes)
  (hel:∀ (m:Nat) (cs' : List Value) (d' : DataW H) (p' : List MemPlace),cs'.length=n→DataW.trod enc Tryz.prog w base (fun _=>true) held m T cs'=some (d',p')→(∀ x∈d'.weights Tryz.prog T,x≤reachBytes)→∃ u,Ok u∧cs'=cells u) :
  ∃ (pa:Option Addr) (pc:Nat) (l:List α),cs=[.slice pa l.length pc]∧RowsIs w n cells Ok pa l∧l.length≤reachBytes:=by
 rcases Go.Deep.open_slice hu h with ⟨rfl,_⟩ | ⟨a,len,cap,m,k,D,Pl,rfl,_,hl,hm0,hm,hx,hall⟩
 ·exact⟨none,0,[],rfl,Or.inl rfl,Nat.zero_le _⟩
 ·simp only [if_true] at hm
  subst hm
  simp only [Prod.mk.injEq] at hx
  obtain⟨rfl,_⟩:=hx
  have hlen : len≤reachBytes:=by
   have h1:=hz ((((List.range len).map D).length+((List.range (m-len)).map fun j=>D (len+j)).length)*Tryz.prog.bytesOf T) (by
     simp only [DataW.weights,hu]
     exact List.mem_cons_self ..)
   rw [List.length_map,List.length_map,List.length_range,List.length_range] at h1
   exact Nat.le_trans (Nat.le_trans (Nat.le_add_right _ _) (Nat.le_mul_of_pos_right _ hb)) h1
  by_cases h0 : len=0
  ·subst h0
   exact⟨some a,m,[],rfl,Or.inl rfl,Nat.zero_le _⟩
  ·have each : ∀ i,i<len→∃ u : α,Ok u∧∀ j,j<n→w.cell? (a.add (i*n+j))=(cells u)[j]?:=by
    intro i hi
    obtain⟨cs',h1,h2⟩:=hall i (by omega)
    rw [hn] at h1
    obtain⟨_,hl',hcell⟩:=World.cells?_some h1
    have hD : D i∈(List.range len).map D:=List.mem_map.2 ⟨i,List.mem_range.2 hi,rfl⟩
    obtain⟨u,hu1,rfl⟩:=hel _ _ _ _ hl' h2 (fun x hx=>hz x (by
      simp only [DataW.weights,hu]
      exact memC (List.mem_append_left _ (weights_all' hD hx))))
    exact⟨u,hu1,fun j hj=>by rw [← Go.Deep.add_add]; exact hcell j hj⟩
   obtain⟨f,hfu⟩:=Go.Deep.choose_lt each
   have hlen2 : ((List.range len).map f).length=len:=by rw [List.length_map,List.length_range]
   obtain⟨g,o,spot⟩:=a
   have c0 : ∃ v,w.cell? (Addr.add ⟨g,o,spot⟩ (0*n+0))=some v:=by
    obtain⟨cs',h1,_⟩:=hall 0 (by omega)
    rw [hn] at h1
    obtain⟨_,hl',hcell⟩:=World.cells?_some h1
    have e0:=hcell 0 h0n
    rw [Go.Deep.add_add] at e0
    exact⟨cs'[0]'(by omega),by rw [e0,List.getElem?_eq_getElem]⟩
   obtain⟨v0,c0⟩:=c0
   have hspot : spot=none:=by simpa [Addr.add] using World.cell?_spot c0
   subst hspot
   have hg : g<w.heap.size:=by
    rcases Nat.lt_or_ge g w.heap.size with h' | h'
    ·exact h'
    ·simp [World.cell?,Addr.add,Array.getElem?_eq_none h'] at c0
   refine⟨some ⟨g,o,none⟩,m,(List.range len).map f,by rw [hlen2],Or.inr ⟨g,o,rfl,hg,fun i u hu=>?_⟩,by rw [hlen2]; exact hlen⟩
   have hi : i<len:=by
    rcases Nat.lt_or_ge i len with h | h
    ·exact h
    ·rw [List.getElem?_eq_none (by rw [hlen2]; exact h)] at hu; cases hu
   obtain rfl : f i=u:=by simpa [hi] using hu
   refine⟨(hfu i hi).1,fun j hj=>?_⟩
   have:=(hfu i hi).2 j hj
   rw [Go.WideShapes.add_plain,← Nat.add_assoc] at this
   exact this
end
end Go.Proofs.YtekoaheiapddiaaGreat.Dz
end
