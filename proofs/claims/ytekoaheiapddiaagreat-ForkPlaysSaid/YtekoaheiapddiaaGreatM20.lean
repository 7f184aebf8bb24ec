/- Merged: Lr10, Lr11, Vj. -/
import Derived.Test.YtekoaheiapddiaaGreatM19
section
namespace Go.Proofs.YtekoaheiapddiaaGreat
open Go.RowKit
structure RTakeS (p:List UInt8→Option (Fo×List UInt8)) (x:List UInt8) (w:World) (rest:List UInt8) (W:World) : Prop where
 below : Below w.heap.size w W
 res : W.heap[w.heap.size]?=some (.cells #[.bool false,.string ⟨#[]⟩,.slice none 0 0] 125 (0,0))
 it : ∃ (f:Fo) (v:Value) (m:Nat),W.heap[w.heap.size+1]?=some (.cells #[.bool true,.string ⟨#[]⟩,v] 125 (0,0))∧OwnR (w.heap.size+2) f v W∧rest.length≤m∧f.len+rest.length≤x.length ∧
  itemsP p x.length x=(itemsP p m rest).map (f.app ·)
def strLen : Value→Nat
 | .string s=>s.size
 | _=>0
theorem rcut_from (s r : List UInt8) (k:Nat) (hk:k≤s.length) (hd:s.drop k=r) (V:World) : (Instr.slice 9 (.string (str s)) (some (.int .i64 (k:Int))) none none).run Tryz.prog V=.ok (.string (str r)) V:=by
 rw [run_slice_string_l V _ _ Tryz.underlying9 .i64 _ (by omega) (by rw [str_size]; omega),Int.toNat_natCast,str_drop,hd]
def listO (r' : List UInt8) : Option Fo→Option (Fo×List UInt8)
 | none=>none
 | some f=>some (.list f .nil,r')
set_option maxRecDepth 100000 in
set_option maxHeartbeats 8000000 in
theorem rtake_list {d : Nat} (IH:RTakeC d) (b:UInt8) (r x r' : List UInt8) (h n : Nat) (hb:¬ b.toNat<192) (hn:n+(d+1)=65) (hl:(b :: r).length≤70000) (hh:h≤(b :: r).length) (hd:(b :: r).drop h=x ++ r') (w:World)
  (HS:∀ V,Calls Tryz.prog 157 #[.string (str (b :: r))] V fun e w'=>e=.returned (.tuple #[.int .i64 (h:Nat),.int .i64 (x.length : Nat),.bool true])∧w'=V) :
  Calls Tryz.prog 108 #[.string (str (b :: r)),.int .i64 n] w (RTakeR (b :: r) (listO r' (itemsP (itemP d) x.length x)) w):=by
 replace HS:=Lib.hid HS
 have hni : ¬ (64:Int)<(n:Int):=by omega
 have hbi : ¬ (b.toNat : Int)<192:=by omega
 have hix:=rindex0 b r
 have hcut:=rcut (b :: r) x r' h hh hd
 have hlen : (b :: r).length=h+x.length+r'.length:=by
  have:=congrArg List.length hd
  rw [List.length_drop,List.length_append] at this; omega
 have hMs : (h:Int)+(x.length : Int)=((h+x.length : Nat) : Int):=by omega
 have hdr : (b :: r).drop ((b :: r).length-r'.length)=r':=by
  rw [show (b :: r).length-r'.length=h+x.length by omega,← List.drop_drop,hd]; simp
 have hM : (b :: r).length-r'.length=h+x.length:=by omega
 have hMb : h+x.length≤70000:=by omega
 have hxb : x.length≤70000:=by omega
 obtain⟨n1,hn1'⟩ : ∃ n1,n1=n+1:=⟨_,rfl⟩
 have hn1 : (n:Int)+1=(n1:Int):=by omega
 have hn65 : n≤64:=by omega
 have HC:=Lib.hid (fun s W hs=>IH n1 s W (by omega) hs)
 have HO:=Lib.hid (show RTakeS (itemP d) x w x ((w.alloc (.cells #[.bool false,.string ⟨#[]⟩,.slice none 0 0] 125)).alloc (.cells #[.bool true,.string ⟨#[]⟩,.slice none 0 0] 125)) from
   ⟨(bel_al _ _).trans ((bel_al _ _).mono (by simp)),by rw [Below.heap_alloc _ _ _ (by simp)]; exact heap_alloc_new _ _,
     .nil,.slice none 0 0,x.length,by have:=heap_alloc_new (w.alloc (.cells #[.bool false,.string ⟨#[]⟩,.slice none 0 0] 125)) (.cells #[.bool true,.string ⟨#[]⟩,.slice none 0 0] 125); rwa [show (w.alloc (.cells #[.bool false,.string ⟨#[]⟩,.slice none 0 0] 125)).heap.size=w.heap.size+1 by simp] at this,
     OwnR.nil _ _,Nat.le_refl _,by simp [Fo.len],by simp [Fo.app]⟩)
 have HE:=Lib.hid (show ∀ (f:Fo) (u:Value) (w' : World),itemsP (itemP d) x.length x=some f→Below w.heap.size w w'→SlF (fun k=>w.heap.size≤k∧k<w'.heap.size) f u w'→RTakeR (b :: r) (listO r' (itemsP (itemP d) x.length x)) w (.returned (.tuple #[.agg #[.bool true,.string ⟨#[]⟩,u],.int .i64 ((h+x.length : Nat) : Int),.bool true])) w' from fun f u w' hf hb hu=>by
   rw [hf]
   exact⟨hb,.list f,_,rfl,⟨_,rfl,hu⟩,by rw [hM],hdr⟩)
 have HZ:=Lib.hid (show ∀ (w' : World),itemsP (itemP d) x.length x=none→Below w.heap.size w w'→RTakeR (b :: r) (listO r' (itemsP (itemP d) x.length x)) w (.returned (.tuple #[.agg #[.bool false,.string ⟨#[]⟩,.slice none 0 0],.int .i64 0,.bool false])) w' from fun w' hf hb=>by
   rw [hf]
   exact⟨hb,rfl⟩)
 have HX:=Lib.hid hxb
 clear hlen hdr hM hd hl hh hn IH hxb hb hn1'
 generalize listO r' (itemsP (itemP d) x.length x)=O at *
 generalize str (b :: r)=t at *
 generalize b.toNat=bn at *
 generalize h+x.length=M at *
 obtain⟨N,hN⟩ : ∃ N,N=x.length:=⟨_,rfl⟩
 rw [← hN] at hMs HS
 have HNx:=Lib.hid hN
 clear hN
 go_enter Tryz.func108,Tryz.ntmps108
 go_wp2_with fail
 go_at_call 157
 refine (HS.out _).mono ?_
 rintro e w1 ⟨rfl,rfl⟩
 clear HS
 go_wp2_with fail
 go_loopw [10] (fun v wr=>∃ rest,v=.string (str rest)∧RTakeS (itemP d) x w rest wr) (fun v _=>strLen v)
 case atStart=>exact⟨x,rfl,HO.out⟩
 case round=>
  clear HO hcut hix
  obtain⟨rest,rfl,hS⟩:=hrel
  obtain⟨f,vv,m,hO1,hO2,hO3,hO4,hO5⟩:=hS.it
  obtain⟨av,nv,cv,rfl⟩:=hO2.sl.form
  rcases rest with _ | ⟨b',s'⟩
  ·have he : itemsP (itemP d) x.length x=some f:=by
    rw [hO5]
    rcases m with _ | m <;> simp [itemsP,Fo.app_nil]
   have hz0 : ((str []).size : Int)=0:=rfl
   obtain⟨⟨c0,c1,c2⟩,z0,z1,z2⟩:=cells3 hO1
   obtain⟨⟨y0,y1,y2⟩,x0,x1,x2⟩:=cells3 hS.res
   have hset:=heap_set3 hS.res (.bool true) (.string ⟨#[]⟩) (.slice av nv cv)
   have hbs:=below_set3 hS.below (Nat.le_refl _) (.bool true) (.string ⟨#[]⟩) (.slice av nv cv)
   obtain⟨⟨p0,p1,p2⟩,_⟩:=cells3 hset
   have HR:=Lib.hid (HE.out f (.slice av nv cv) (((wr.setCell ⟨w.heap.size,0,none⟩ (.bool true)).setCell ⟨w.heap.size,1,none⟩ (.string ⟨#[]⟩)).setCell ⟨w.heap.size,2,none⟩ (.slice av nv cv)) he hbs (by
     refine (hO2.sl.kept (fun i hi=>?_)).mono (fun i hi=>⟨by omega,by simp [World.setCell]; omega⟩)
     rw [heap_setCell_other _ _ _ _ (by simp; omega),heap_setCell_other _ _ _ _ (by simp; omega),heap_setCell_other _ _ _ _ (by simp; omega)]))
   clear hO1 hO2 hO3 hO4 hO5 he hset hbs hS
   go_wp2_with fail
   exact bodyPost_ret (v:=.tuple #[.agg #[.bool true,.string ⟨#[]⟩,.slice av nv cv],.int .i64 (M:Nat),.bool true]) (by simp [results,Tryz.results108,go_sem,p0,p1,p2]) rfl HR.out
  ·have hps : (0:Int)<((str (b' :: s')).size : Int):=by rw [str_size,List.length_cons]; omega
   obtain⟨m,rfl⟩ : ∃ k,m=k+1:=⟨m-1,by simp at hO3; omega⟩
   have HQ:=Lib.hid (HC.out (b' :: s') wr (by have:=HX.out; omega))
   cases hp : itemP d (b' :: s') with
   | none=>
    rw [hp] at HQ
    have he : itemsP (itemP d) x.length x=none:=by rw [hO5]; simp [itemsP,hp]
    have HR:=Lib.hid (fun w'=>HZ.out w' he)
    have HS2:=Lib.hid (And.intro hS.below hS.res)
    clear hO1 hO2 hO3 hO4 hO5 he hS hp
    generalize str (b' :: s')=tb at *
    go_wp2_with fail
    go_at_call 108
    refine HQ.out.mono ?_
    rintro e w1 ⟨hb1,rfl⟩
    have hres:=(hb1.block _ (lt_of HS2.out.2)).trans HS2.out.2
    have hres2:=(Below.heap_alloc w1 (.cells #[.bool false,.string ⟨#[]⟩,.slice none 0 0] 125) _ (lt_of hres)).trans hres
    have hbel:=(HS2.out.1.trans (hb1.mono HS2.out.1.size)).alloc (Nat.le_trans HS2.out.1.size hb1.size) (.cells #[.bool false,.string ⟨#[]⟩,.slice none 0 0] 125)
    obtain⟨_,x0,x1,x2⟩:=cells3 hres2
    have hset:=heap_set3 hres2 (.bool false) (.string ⟨#[]⟩) (.slice none 0 0)
    have hbs:=Lib.hid (below_set3 hbel (Nat.le_refl _) (.bool false) (.string ⟨#[]⟩) (.slice none 0 0))
    obtain⟨⟨p0,p1,p2⟩,_⟩:=cells3 hset
    clear hset hbel hres hres2 hb1 HS2 HQ
    go_wp2_with fail
    exact bodyPost_ret (v:=.tuple #[.agg #[.bool false,.string ⟨#[]⟩,.slice none 0 0],.int .i64 0,.bool false]) (by simp [results,Tryz.results108,go_sem,p0,p1,p2]) rfl (HR.out _ hbs.out)
   | some q=>
    obtain⟨f1,r1⟩:=q
    rw [hp] at HQ
    have hrl:=itemP_lt hp
    have he : itemsP (itemP d) x.length x=(itemsP (itemP d) m r1).map ((f.app f1).app ·):=by
     rw [hO5]
     simp only [itemsP,hp]
     cases itemsP (itemP d) m r1 <;> simp [Fo.app_assoc]
    obtain⟨k1,hk1⟩ : ∃ k1,k1=(b' :: s').length-r1.length:=⟨_,rfl⟩
    have hkl : k1≤(b' :: s').length:=by omega
    have HK:=Lib.hid (And.intro hk1 hkl)
    have hsz:=str_size (b' :: s')
    have HN2:=Lib.hid (And.intro hO3 (And.intro hO4 (And.intro hrl (And.intro he hsz))))
    have HW:=Lib.hid (And.intro hO1 (And.intro hO2 hS))
    have HCUT:=Lib.hid (fun hdrop=>rcut_from (b' :: s') r1 k1 hkl hdrop)
    clear hO1 hO2 hO3 hO4 hO5 he hS hp hrl hkl hsz hk1
    generalize str (b' :: s')=tb at *
    go_wp2_with fail
    go_at_call 108
    refine HQ.out.mono ?_
    rintro e w1 ⟨hb,it,v,hit,hv,rfl,hdrop⟩
    rw [← HK.out.1] at hdrop
    have hcut2:=HCUT.out hdrop
    rw [← HK.out.1]
    obtain⟨b2,t2,a2,n2,q2,hf⟩:=hv.form
    obtain⟨b3,t3,l3,hf2,hone,hcel⟩:=hv.cel
    rw [hf] at hf2
    obtain⟨rfl,rfl,rfl⟩ : b2=b3∧t2=t3∧.slice a2 n2 q2=l3:=by simpa using hf2
    subst hf
    clear hf2 hdrop HCUT HQ
    have hO1:=HW.out.1
    have hO2:=HW.out.2.1
    have hS:=HW.out.2.2
    have hob : wr.heap.size≤w1.heap.size:=hb.size
    have hlt1:=lt_of hO1
    have c2 : (w1.alloc (.cells #[.bool b2,.string t2,.slice a2 n2 q2] 125)).cell? ⟨w.heap.size+1,2,none⟩=some (.slice av nv cv):=by
     rw [cell_of ((Below.heap_alloc _ _ _ (by omega)).trans ((hb.block _ hlt1).trans hO1)) 2]; rfl
    have hsa : ((w1.alloc (.cells #[.bool b2,.string t2,.slice a2 n2 q2] 125)).alloc (.cells #[.bool b2,.string t2,.slice a2 n2 q2] 125)).heap.size=w1.heap.size+2:=by simp
    have hal : ∀ i,i<w1.heap.size→((w1.alloc (.cells #[.bool b2,.string t2,.slice a2 n2 q2] 125)).alloc (.cells #[.bool b2,.string t2,.slice a2 n2 q2] 125)).heap[i]?=w1.heap[i]?:=fun i hi=>(Below.heap_alloc _ _ _ (by rw [alloc_size]; omega)).trans (Below.heap_alloc _ _ _ hi)
    have hzz : ((w1.alloc (.cells #[.bool b2,.string t2,.slice a2 n2 q2] 125)).alloc (.cells #[.bool b2,.string t2,.slice a2 n2 q2] 125)).heap[w1.heap.size+1]?=some (.cells #[.bool b2,.string t2,.slice a2 n2 q2] 125 (0,0)):=by
     have:=heap_alloc_new (w1.alloc (.cells #[.bool b2,.string t2,.slice a2 n2 q2] 125)) (.cells #[.bool b2,.string t2,.slice a2 n2 q2] 125)
     rwa [alloc_size] at this
    have hown : OwnR (w.heap.size+2) f (.slice av nv cv) ((w1.alloc (.cells #[.bool b2,.string t2,.slice a2 n2 q2] 125)).alloc (.cells #[.bool b2,.string t2,.slice a2 n2 q2] 125)):=hO2.kept (fun i _ hi=>(hal i (by omega)).trans (hb.block i hi)) (by omega)
    have hSS : ∀ i,(wr.heap.size≤i∧i<w1.heap.size)→w.heap.size+2≤i∧i<((w1.alloc (.cells #[.bool b2,.string t2,.slice a2 n2 q2] 125)).alloc (.cells #[.bool b2,.string t2,.slice a2 n2 q2] 125)).heap.size∧(Value.slice av nv cv).ownBlock≠some i:=fun i hi=>
     ⟨by omega,by omega,fun e=>by have:=(hO2.blk i e).2; omega⟩
    have hcel2:=hcel.kept (W':=((w1.alloc (.cells #[.bool b2,.string t2,.slice a2 n2 q2] 125)).alloc (.cells #[.bool b2,.string t2,.slice a2 n2 q2] 125))) (fun i hi=>hal i hi.2) _ _
    have hout : ((w1.alloc (.cells #[.bool b2,.string t2,.slice a2 n2 q2] 125)).alloc (.cells #[.bool b2,.string t2,.slice a2 n2 q2] 125)).heap[w.heap.size+1]?=some (.cells #[.bool true,.string ⟨#[]⟩,.slice av nv cv] 125 (0,0)):=(hal _ (by omega)).trans ((hb.block _ hlt1).trans hO1)
    have hres : ((w1.alloc (.cells #[.bool b2,.string t2,.slice a2 n2 q2] 125)).alloc (.cells #[.bool b2,.string t2,.slice a2 n2 q2] 125)).heap[w.heap.size]?=some (.cells #[.bool false,.string ⟨#[]⟩,.slice none 0 0] 125 (0,0)):=(hal _ (by omega)).trans ((hb.block _ (by omega)).trans hS.res)
    have hbel : Below w.heap.size w ((w1.alloc (.cells #[.bool b2,.string t2,.slice a2 n2 q2] 125)).alloc (.cells #[.bool b2,.string t2,.slice a2 n2 q2] 125)):=hS.below.trans ((hb.mono hS.below.size).trans ⟨by rfl,by rfl,by rfl,by omega,fun i hi=>hal i (by have:=hS.below.size; omega)⟩)
    have HV:=Lib.hid (And.intro hzz (And.intro hown (And.intro hSS (And.intro hone (And.intro hcel2 (by omega : w.heap.size+2≤((w1.alloc (.cells #[.bool b2,.string t2,.slice a2 n2 q2] 125)).alloc (.cells #[.bool b2,.string t2,.slice a2 n2 q2] 125)).heap.size))))))
    have HO:=Lib.hid (And.intro hout (And.intro hres (And.intro hbel hit)))
    clear hone hcel hb hv hO1 hO2 hS hlt1 hob hsa hal hzz hown hSS hcel2 hout hres hbel hit
    go_wp2_with (at_builtin; refine wpList_append_itemR (by rfl) _ _ (by rfl) (w.heap.size+2) (.slice av nv cv) f it b2 t2 (.slice a2 n2 q2) (fun k=>wr.heap.size≤k∧k<w1.heap.size) (by rfl) HV.out.2.1 HV.out.2.2.1 HV.out.2.2.2.1 HV.out.2.2.2.2.1 (w1.heap.size+1) (by rfl) HV.out.1 HV.out.2.2.2.2.2 (by have:=HN2.out.2.1; have:=HX.out; omega) ?_; intro v2 w2 hown2 hgr _hbl; obtain⟨av',nv',cv',rfl⟩:=hown2.sl.form; have hout2:=(hgr.block (w.heap.size+1) (lt_of HO.out.1) (fun e=>by have:=HV.out.2.1.blk _ e.symm; omega)).trans HO.out.1; have hres2:=(hgr.block w.heap.size (by have:=lt_of HO.out.1; omega) (fun e=>by have:=HV.out.2.1.blk _ e.symm; omega)).trans HO.out.2.1; have hbel2:=HO.out.2.2.1.trans (Only.below (Only.grown (may:=fun _=>False) (B:=w.heap.size) hgr (fun i e=>by have:=(HV.out.2.1.blk i e).1; omega) HO.out.2.2.1.size) (Nat.le_refl _) (fun _ _ h=>h)); obtain⟨⟨_,_,y2⟩,_,_,z2⟩:=cells3 hout2; have HG:=Lib.hid (And.intro hown2 (And.intro hout2 (And.intro hres2 hbel2))); clear hown2 hgr _hbl HV hout2 hres2 hbel2)
    have hout : (w2.setCell ⟨w.heap.size+1,2,none⟩ (.slice av' nv' cv')).heap[w.heap.size+1]?=some (.cells #[.bool true,.string ⟨#[]⟩,.slice av' nv' cv'] 125 (0,0)):=by
     have e:=heap_setCell_same _ _ 2 _ _ (.slice av' nv' cv') HG.out.2.1
     simpa using e
    have hrl:=HN2.out.2.2.1
    have ho3:=HN2.out.1
    have ho4:=HN2.out.2.1
    simp only [List.length_cons] at ho3 ho4 hrl
    refine⟨⟨r1,rfl,HG.out.2.2.2.setCell (by simp) _,(heap_setCell_other _ _ _ _ (by simp)).trans HG.out.2.2.1,f.app (it.fo .nil),_,m,hout,?_,by omega,?_,?_⟩,?_⟩
    ·exact HG.out.1.kept (fun i hi _=>heap_setCell_other _ _ _ _ (by simp; omega)) (by simp [World.setCell])
    ·rw [Fo.len_app,show (it.fo .nil).len=1 by cases it <;> rfl]; omega
    ·rw [← HO.out.2.2.2]; exact HN2.out.2.2.2.1
    ·show (str r1).size<tb.size
     rw [str_size,HN2.out.2.2.2.2]
     simp only [List.length_cons]; omega
set_option maxRecDepth 100000 in
theorem rsize_any (s:List UInt8) (hs:s.length≤70000) (V:World) : Calls Tryz.prog 157 #[.string (str s)] V fun e w'=>(∃ (p q : Int) (ok:Bool),e=.returned (.tuple #[.int .i64 p,.int .i64 q,.bool ok]))∧w'=V:=by
 have hB : ∀ a o e,SizeB s a o e→∃ (p q : Int) (ok:Bool),e=Ending.returned (.tuple #[.int .i64 p,.int .i64 q,.bool ok]):=by
  intro a o e h
  rcases o with _ | ⟨x,r⟩
  ·obtain⟨p,q,h⟩:=h; exact⟨p,q,false,h⟩
  ·obtain⟨g,h,_⟩:=h; exact⟨_,_,true,h⟩
 rcases s with _ | ⟨b,r⟩
 ·exact (rsize_none V).mono fun e w' ⟨h1,h2⟩=>⟨⟨_,_,_,h1⟩,h2⟩
 ·by_cases h1 : b.toNat<128
  ·exact (rsize_one b r h1 V).mono fun e w' ⟨h1,h2⟩=>⟨⟨_,_,_,h1⟩,h2⟩
  ·by_cases h2 : b.toNat<192
   ·exact (rsize_128 b r ⟨by omega,h2⟩ (by rw [List.length_cons] at hs; omega) V).mono (fun e w' h=>⟨hB (b.toNat-128) (bodyP (b.toNat-128) r) e h.1,h.2⟩)
   ·exact (rsize_192 b r (by omega) (by rw [List.length_cons] at hs; omega) V).mono (fun e w' h=>⟨hB (b.toNat-192) (bodyP (b.toNat-192) r) e h.1,h.2⟩)
theorem bodyP_at (b:UInt8) {a : Nat} {r x r' : List UInt8} (h:bodyP a r=some (x,r')) : ∃ g : Nat,(g=1 ↔ a≤55)∧g≤(b :: r).length∧(b :: r).drop g=x ++ r':=by
 unfold bodyP at h
 by_cases ha : a≤55
 ·rw [if_pos ha] at h
  obtain⟨e,_⟩:=tk_spec h
  exact⟨1,⟨fun _=>ha,fun _=>rfl⟩,by simp,by simpa using e⟩
 ·rw [if_neg ha] at h
  cases hk : tk (a-55) r with
  | none=>rw [hk] at h; cases h
  | some q=>
   obtain⟨n,q⟩:=q
   rw [hk] at h
   simp only at h
   split at h
   ·obtain⟨e1,e2⟩:=tk_spec hk
    obtain⟨e3,_⟩:=tk_spec h
    refine⟨a-55+1,⟨fun h=>by omega,fun h=>absurd h ha⟩,?_,?_⟩
    ·rw [e1,List.length_cons,List.length_append]; omega
    ·rw [List.drop_succ_cons,e1,← e3,← e2]; simp
   ·cases h
theorem same_drop {s : List UInt8} {y : List UInt8} {g g' : Nat} (h:g≤s.length) (h' : g'≤s.length) (e:s.drop g=y) (e' : s.drop g'=y) : g=g':=by
 have l1:=congrArg List.length e
 have l2:=congrArg List.length e'
 rw [List.length_drop] at l1 l2
 omega
set_option maxRecDepth 100000 in
theorem rtake_c : ∀ d,RTakeC d:=by
 intro d
 induction d with
 | zero=>
  intro n s w hn hs
  exact rtake_deep s n (by omega) w (rsize_any s hs)
 | succ d ih=>
  intro n s w hn hs
  rcases s with _ | ⟨b,r⟩
  ·exact rtake_none [] n w (fun V=>(rsize_none V).mono fun e w' ⟨h1,h2⟩=>⟨⟨_,_,h1⟩,h2⟩)
  ·show Calls _ _ _ _ (RTakeR (b :: r) (itemS (itemP d) (b :: r)) w)
   by_cases h1 : b.toNat<128
   ·have e : itemS (itemP d) (b :: r)=(if (0:Nat)=1∧bareL [b]=true then none else some (.text [b] .nil,r)):=by
     rw [if_neg (fun h=>absurd h.1 (by decide))]
     simp [itemS,h1]
    rw [e]
    exact rtake_text b r [b] r 0 n (by omega) (by omega) hs (Nat.zero_le _) rfl w (rsize_one b r h1)
   ·by_cases h2 : b.toNat<192
    ·have HS:=rsize_128 b r ⟨by omega,h2⟩ (by rw [List.length_cons] at hs; omega)
     have e : itemS (itemP d) (b :: r)=textS (bodyP (b.toNat-128) r):=by simp [itemS,h1,h2]
     rw [e]
     cases hbd : bodyP (b.toNat-128) r with
     | none=>
      rw [hbd] at HS
      exact rtake_none _ n w (fun V=>(HS V).mono fun e w' ⟨g1,g2⟩=>⟨g1,g2⟩)
     | some q=>
      obtain⟨x,r'⟩:=q
      rw [hbd] at HS
      have hex : ∃ g : Nat,(∀ V,Calls Tryz.prog 157 #[.string (str (b :: r))] V fun e w'=>e=.returned (.tuple #[.int .i64 (g:Nat),.int .i64 (x.length : Nat),.bool true])∧w'=V)∧(g=1 ↔ b.toNat-128≤55)∧g≤(b :: r).length∧(b :: r).drop g=x ++ r':=by
       obtain⟨g,g1,g2,g3⟩:=bodyP_at b hbd
       refine⟨g,fun V=>(HS V).mono fun e w' ⟨⟨g',k0,k1,k2,k3,_⟩,k4⟩=>⟨?_,k4⟩,g1,g2,g3⟩
       rw [same_drop g2 k2 g3 k3]; exact k0
      obtain⟨g,g0,g1,g2,g3⟩:=hex
      have ht : textS (some (x,r'))=(if g=1∧bareL x=true then none else some (.text x .nil,r')):=by
       by_cases h55 : b.toNat-128≤55
       ·simp only [textS,g1.2 h55,true_and]
       ·have hx:=bodyP_55 hbd h55
        have : bareL x=false:=bareL_ne (by omega)
        simp [textS,this]
      rw [ht]
      exact rtake_text b r x r' g n h2 (by omega) hs g2 g3 w g0
    ·have HS:=rsize_192 b r (by omega) (by rw [List.length_cons] at hs; omega)
     have e : itemS (itemP d) (b :: r)=listS (itemP d) (bodyP (b.toNat-192) r):=by simp [itemS,h1,h2]
     rw [e]
     cases hbd : bodyP (b.toNat-192) r with
     | none=>
      rw [hbd] at HS
      exact rtake_none _ n w (fun V=>(HS V).mono fun e w' ⟨g1,g2⟩=>⟨g1,g2⟩)
     | some q=>
      obtain⟨x,r'⟩:=q
      rw [hbd] at HS
      obtain⟨g,g1,g2,g3⟩:=bodyP_at b hbd
      have HS2 : ∀ V,Calls Tryz.prog 157 #[.string (str (b :: r))] V fun e w'=>e=.returned (.tuple #[.int .i64 (g:Nat),.int .i64 (x.length : Nat),.bool true])∧w'=V:=fun V=>(HS V).mono fun e w' ⟨⟨g',k0,k1,k2,k3,_⟩,k4⟩=>⟨by rw [same_drop g2 k2 g3 k3]; exact k0,k4⟩
      have ht : listS (itemP d) (some (x,r'))=listO r' (itemsP (itemP d) x.length x):=by
       simp only [listS]
       cases itemsP (itemP d) x.length x <;> rfl
      rw [ht]
      exact rtake_list ih b r x r' g n h2 hn hs g2 g3 w HS2
end Go.Proofs.YtekoaheiapddiaaGreat
end
section
namespace Go.Proofs.YtekoaheiapddiaaGreat
open Go.RowKit
def itOf : Fo→It
 | .text s _=>.text s
 | .list i _=>.list i
 | .nil=>.text []
theorem itOf_fo (x:It) : itOf (x.fo .nil)=x:=by cases x <;> rfl
def decV (s:List UInt8) : It×Nat:=if 65536<s.length then (.text [],3) else match decP s with
 | some f=>(itOf f,0)
 | none=>(.text [],2)
theorem decV_enc (s:List UInt8) : (decV s).1.enc.length≤65536:=by
 unfold decV
 split
 ·decide
 ·next h=>
  split
  ·next f hf=>
   have he:=decP_enc hf
   have h1 : (itOf f).enc=f.enc:=by
    unfold decP at hf
    split at hf
    ·next g hg=>
     injection hf with hf
     subst hf
     obtain⟨y,rfl⟩:=itemP_one _ _ _ _ hg
     rw [itOf_fo,It.enc_fo']
    ·cases hf
   show (itOf f).enc.length≤65536
   rw [h1,he]; omega
  ·decide
def DecN (s:List UInt8) (w:World) (e:Ending) (w' : World) : Prop:=
 ∃ v,e=.returned (.tuple #[v,.int .i64 ((decV s).2 : Nat)])∧ItV (fun k=>w.heap.size≤k∧k<w'.heap.size) (decV s).1 v w'∧Below w.heap.size w w'
theorem decode_n (s:List UInt8) (w:World) : Calls Tryz.prog 103 #[.string (str s)] w (DecN s w):=by
 refine (decode_c s w).mono ?_
 rintro e w' ⟨hb,h⟩
 by_cases hl : 65536<s.length
 ·rw [if_pos hl] at h
  have hd : decV s=(.text [],3):=if_pos hl
  exact⟨_,by rw [hd]; exact h,by rw [hd]; rfl,hb⟩
 ·rw [if_neg hl] at h
  cases hp : decP s with
  | none=>
   rw [hp] at h
   have hd : decV s=(.text [],2):=by unfold decV; rw [if_neg hl,hp]
   exact⟨_,by rw [hd]; exact h,by rw [hd]; rfl,hb⟩
  | some f=>
   rw [hp] at h
   obtain⟨x,v,rfl,h2,h3⟩:=h
   have hd : decV s=(x,0):=by unfold decV; rw [if_neg hl,hp]; simp only [itOf_fo]
   exact⟨v,by rw [hd]; exact h2,by rw [hd]; exact h3,hb⟩
set_option maxRecDepth 100000 in
set_option maxHeartbeats 4000000 in
theorem rdecode_n (s:List UInt8) (w:World) : Calls Tryz.prog 56 #[.string (str s)] w (DecN s w):=by
 have hsz:=str_size s
 by_cases hl : 65536<s.length
 ·have hli : (65536:Int)<((str s).size : Int):=by omega
  have hd : decV s=(.text [],3):=if_pos hl
  have HF:=Lib.hid (show DecN s w (.returned (.tuple #[.agg #[.bool false,.string ⟨#[]⟩,.slice none 0 0],.int .i64 3])) (w.alloc (.cells #[.bool false,.string ⟨#[]⟩,.slice none 0 0] 125)) from⟨_,by rw [hd]; rfl,by rw [hd]; rfl,bel_al _ _⟩)
  clear hl hsz hd
  generalize str s=t at *
  go_enter Tryz.func56,Tryz.ntmps56
  go_wp2_with fail
  exact bodyPost_ret (v:=.tuple #[.agg #[.bool false,.string ⟨#[]⟩,.slice none 0 0],.int .i64 3]) (by simp [results,Tryz.results56,go_sem]) rfl HF.out
 ·have hli : ¬ (65536:Int)<((str s).size : Int):=by omega
  have HC:=Lib.hid (fun W=>rtake_c 65 0 s W rfl (by omega))
  cases hp : itemP 65 s with
  | none=>
   rw [hp] at HC
   have hd : decV s=(.text [],2):=by unfold decV decP; rw [if_neg hl,hp]
   have HF:=Lib.hid (show ∀ w',Below w.heap.size w w'→DecN s w (.returned (.tuple #[.agg #[.bool false,.string ⟨#[]⟩,.slice none 0 0],.int .i64 2])) w' from fun w' hb=>⟨_,by rw [hd]; rfl,by rw [hd]; rfl,hb⟩)
   have hbox:=heap_alloc_new w (.cells #[.bool false,.string ⟨#[]⟩,.slice none 0 0] 125)
   have HB:=Lib.hid (And.intro (bel_al w (.cells #[.bool false,.string ⟨#[]⟩,.slice none 0 0] 125)) hbox)
   clear hl hsz hd hp hbox
   generalize str s=t at *
   go_enter Tryz.func56,Tryz.ntmps56
   go_wp2_with fail
   go_at_call 108
   refine (HC.out _).mono ?_
   rintro e w1 ⟨hb1,rfl⟩
   have hres:=(hb1.block _ (lt_of HB.out.2)).trans HB.out.2
   have hres2:=(Below.heap_alloc w1 (.cells #[.bool false,.string ⟨#[]⟩,.slice none 0 0] 125) _ (lt_of hres)).trans hres
   have hbel:=(HB.out.1.trans (hb1.mono HB.out.1.size)).alloc (Nat.le_trans HB.out.1.size hb1.size) (.cells #[.bool false,.string ⟨#[]⟩,.slice none 0 0] 125)
   obtain⟨_,x0,x1,x2⟩:=cells3 hres2
   have hset:=heap_set3 hres2 (.bool false) (.string ⟨#[]⟩) (.slice none 0 0)
   have hbs:=Lib.hid (below_set3 hbel (Nat.le_refl _) (.bool false) (.string ⟨#[]⟩) (.slice none 0 0))
   obtain⟨⟨p0,p1,p2⟩,_⟩:=cells3 hset
   clear hset hbel hres hres2 hb1 HB HC
   go_wp2_with fail
   exact bodyPost_ret (v:=.tuple #[.agg #[.bool false,.string ⟨#[]⟩,.slice none 0 0],.int .i64 2]) (by simp [results,Tryz.results56,go_sem,p0,p1,p2]) rfl (HF.out _ hbs.out)
  | some q=>
   obtain⟨f,r⟩:=q
   rw [hp] at HC
   have hrl:=itemP_lt hp
   obtain⟨k1,hk1⟩ : ∃ k1,k1=s.length-r.length:=⟨_,rfl⟩
   by_cases hr : r=[]
   ·have hki : ((k1:Int) == ((str s).size : Int))=true:=by rw [beq_iff_eq,hsz,hk1,hr]; simp
    have hki2 : (k1:Int)=((str s).size : Int):=by rw [hsz,hk1,hr]; simp
    subst hr
    have HF:=Lib.hid (show ∀ (x:It) (v:Value) w',f=x.fo .nil→ItV (fun k=>w.heap.size≤k∧k<w'.heap.size) x v w'→Below w.heap.size w w'→DecN s w (.returned (.tuple #[v,.int .i64 0])) w' from fun x v w' hf hv hb=>by
      have hd : decV s=(x,0):=by unfold decV decP; rw [if_neg hl,hp,hf]; simp only [itOf_fo]
      exact⟨v,by rw [hd]; rfl,by rw [hd]; exact hv,hb⟩)
    have hbox:=heap_alloc_new w (.cells #[.bool false,.string ⟨#[]⟩,.slice none 0 0] 125)
    have HB:=Lib.hid (And.intro (bel_al w (.cells #[.bool false,.string ⟨#[]⟩,.slice none 0 0] 125)) hbox)
    have HK:=Lib.hid hk1
    clear hl hsz hp hbox hrl hk1
    generalize str s=t at *
    go_enter Tryz.func56,Tryz.ntmps56
    go_wp2_with fail
    go_at_call 108
    refine (HC.out _).mono ?_
    rintro e w1 ⟨hb1,x,v,hx,hv,rfl,_⟩
    rw [← HK.out]
    obtain⟨b2,t2,a2,n2,q2,rfl⟩:=hv.form
    have hres:=(hb1.block _ (lt_of HB.out.2)).trans HB.out.2
    have hres2:=(Below.heap_alloc w1 (.cells #[.bool b2,.string t2,.slice a2 n2 q2] 125) _ (lt_of hres)).trans hres
    have hnew:=heap_alloc_new w1 (.cells #[.bool b2,.string t2,.slice a2 n2 q2] 125)
    have hbel:=(HB.out.1.trans (hb1.mono HB.out.1.size)).alloc (Nat.le_trans HB.out.1.size hb1.size) (.cells #[.bool b2,.string t2,.slice a2 n2 q2] 125)
    obtain⟨_,x0,x1,x2⟩:=cells3 hres2
    obtain⟨⟨y0,y1,y2⟩,_⟩:=cells3 hnew
    have hset:=heap_set3 hres2 (.bool b2) (.string t2) (.slice a2 n2 q2)
    have hbs:=below_set3 hbel (Nat.le_refl _) (.bool b2) (.string t2) (.slice a2 n2 q2)
    have HG:=Lib.hid (HF.out x _ _ hx (by
      refine (hv.kept (W':=((((w1.alloc (.cells #[.bool b2,.string t2,.slice a2 n2 q2] 125)).setCell ⟨w.heap.size,0,none⟩ (.bool b2)).setCell ⟨w.heap.size,1,none⟩ (.string t2)).setCell ⟨w.heap.size,2,none⟩ (.slice a2 n2 q2))) (fun i hi=>?_)).mono (fun i hi=>⟨by have:=HB.out.1.size; omega,by simp [World.setCell]; omega⟩)
      have h1:=lt_of HB.out.2
      rw [heap_setCell_other _ _ _ _ (by simp; omega),heap_setCell_other _ _ _ _ (by simp; omega),heap_setCell_other _ _ _ _ (by simp; omega),Below.heap_alloc _ _ _ hi.2]) hbs)
    obtain⟨⟨p0,p1,p2⟩,_⟩:=cells3 hset
    clear hset hbel hres hres2 hb1 HB HC hnew hbs hv hx HK
    go_wp2_with fail
    exact bodyPost_ret (v:=.tuple #[.agg #[.bool b2,.string t2,.slice a2 n2 q2],.int .i64 0]) (by simp [results,Tryz.results56,go_sem,p0,p1,p2]) rfl HG.out
   ·have hr0 : 0<r.length:=List.length_pos_iff.2 hr
    have hki : ((k1:Int) == ((str s).size : Int))=false:=by rw [beq_eq_false_iff_ne,hsz,hk1]; omega
    have hki2 : ¬ (k1:Int)=((str s).size : Int):=by rw [hsz,hk1]; omega
    have hd : decV s=(.text [],2):=by
     unfold decV decP
     rw [if_neg hl,hp]
     obtain⟨c,r',rfl⟩:=List.exists_cons_of_ne_nil hr
     rfl
    have HF:=Lib.hid (show ∀ w',Below w.heap.size w w'→DecN s w (.returned (.tuple #[.agg #[.bool false,.string ⟨#[]⟩,.slice none 0 0],.int .i64 2])) w' from fun w' hb=>⟨_,by rw [hd]; rfl,by rw [hd]; rfl,hb⟩)
    have hbox:=heap_alloc_new w (.cells #[.bool false,.string ⟨#[]⟩,.slice none 0 0] 125)
    have HB:=Lib.hid (And.intro (bel_al w (.cells #[.bool false,.string ⟨#[]⟩,.slice none 0 0] 125)) hbox)
    have HK:=Lib.hid hk1
    clear hl hsz hd hp hbox hrl hk1 hr hr0
    generalize str s=t at *
    go_enter Tryz.func56,Tryz.ntmps56
    go_wp2_with fail
    go_at_call 108
    refine (HC.out _).mono ?_
    rintro e w1 ⟨hb1,x,v,hx,hv,rfl,_⟩
    rw [← HK.out]
    obtain⟨b2,t2,a2,n2,q2,rfl⟩:=hv.form
    have hres:=(hb1.block _ (lt_of HB.out.2)).trans HB.out.2
    have hres2:=(Below.heap_alloc w1 (.cells #[.bool b2,.string t2,.slice a2 n2 q2] 125) _ (lt_of hres)).trans hres
    have hbel:=(HB.out.1.trans (hb1.mono HB.out.1.size)).alloc (Nat.le_trans HB.out.1.size hb1.size) (.cells #[.bool b2,.string t2,.slice a2 n2 q2] 125)
    obtain⟨_,x0,x1,x2⟩:=cells3 hres2
    have hset:=heap_set3 hres2 (.bool false) (.string ⟨#[]⟩) (.slice none 0 0)
    have hbs:=Lib.hid (below_set3 hbel (Nat.le_refl _) (.bool false) (.string ⟨#[]⟩) (.slice none 0 0))
    obtain⟨⟨p0,p1,p2⟩,_⟩:=cells3 hset
    clear hset hbel hres hres2 hb1 HB HC hv hx HK
    go_wp2_with fail
    exact bodyPost_ret (v:=.tuple #[.agg #[.bool false,.string ⟨#[]⟩,.slice none 0 0],.int .i64 2]) (by simp [results,Tryz.results56,go_sem,p0,p1,p2]) rfl (HF.out _ hbs.out)
end Go.Proofs.YtekoaheiapddiaaGreat
end
section
namespace Go.Proofs.YtekoaheiapddiaaGreat
open Go.RowKit
theorem decV_ok {s : List UInt8} (h:(decV s).2=0) : (decV s).1.enc=s:=by
 unfold decV at h ⊢
 split at h
 ·simp at h
 ·rename_i hl
  rw [if_neg hl]
  cases hp : decP s with
  | none=>rw [hp] at h; simp at h
  | some f=>
   simp only
   have he:=decP_enc hp
   have h1 : (itOf f).enc=f.enc:=by
    unfold decP at hp
    split at hp
    ·next g hg=>
     injection hp with hp
     subst hp
     obtain⟨y,rfl⟩:=itemP_one _ _ _ _ hg
     rw [itOf_fo,It.enc_fo']
    ·cases hp
   rw [h1,he]
theorem decV_of {x : It} {s : List UInt8} (h:x.enc=s) (hl:x.enc.length<60000) (hd:x.dep≤65) : decV s=(x,0):=by
 subst h
 unfold decV
 rw [if_neg (by omega),dec_it x hl hd]
 simp only [itOf_fo]
theorem putAsk_c {a : AskP} (hw:a.Wf) (w:World) : Calls Tryz.prog 149 #[askV a] w fun e w'=>e=.returned (putAskV a)∧Below w.heap.size w w':=by
 by_cases hl : a.addr.length=20
 ·exact putAsk_20 hl hw w
 ·exact putAsk_bad hl w
theorem SlF_inner {S : Nat→Prop} {x : It} {v : Value} {W : World} (h:ItV S x v W) : ∃ b t u,v=.agg #[.bool b,.string t,u]∧SlF S x.inner u W:=by
 cases x with
 | text s=>exact⟨_,_,_,h,Or.inl ⟨rfl,rfl⟩⟩
 | list i=>obtain⟨u,e,h⟩:=h; exact⟨_,_,u,e,h⟩
theorem inner_len (x:It) : x.inner.enc.length≤x.enc.length:=by
 cases x with
 | text s=>simp [It.inner,Fo.enc]
 | list i=>simp only [It.inner,It.enc,List.length_append]; omega
def askO : Option AskP→Value
 | none=>.tuple #[.agg #[.int .u64 0,.string ⟨#[]⟩,.int .u64 0,.int .u64 0,.int .u64 0,.int .u64 0,.int .i64 0],.bool false]
 | some a=>.tuple #[askV a,.bool true]
def GetAskR (s:List UInt8) (w:World) (e:Ending) (w' : World) : Prop:=∃ o,AskIs s o∧e=.returned (askO o)∧Below w.heap.size w w'
theorem ar_results (tmps:Array Value) (w:World) (a b : Nat) (cs:Array Value) (v:Value) (hp:tmps.getD 8 undef=.pointer (some ⟨a,0,none⟩)) (hq:tmps.getD 9 undef=.pointer (some ⟨b,0,none⟩)) (ha:w.heap[a]?=some (.cells cs 117 (0,0))) (hc:cs.size=7) (hb:w.heap[b]?=some (.cells #[v] 4 (0,0))) :
  (results Tryz.f147 tmps).run Tryz.prog w=.ok (.tuple #[.agg cs,v]) w:=by
 match cs,hc with
 | ⟨[v0,v1,v2,v3,v4,v5,v6]⟩,_=>
  obtain⟨⟨c0,c1,c2,c3,c4,c5,c6⟩,_⟩:=cells7 ha
  have c7 : w.cell? ⟨b,0,none⟩=some v:=cell_of hb 0
  have hp' : tmps[8]?.getD undef=.pointer (some ⟨a,0,none⟩):=by simpa using hp
  have hq' : tmps[9]?.getD undef=.pointer (some ⟨b,0,none⟩):=by simpa using hq
  simp [results,Tryz.results147,hp',hq',go_sem,c0,c1,c2,c3,c4,c5,c6,c7]
structure Ab (w:World) (cs:Array Value) (v:Value) (V:World) : Prop where
 below : Below w.heap.size w V
 got : V.heap[w.heap.size]?=some (.cells cs 117 (0,0))
 ok : V.heap[w.heap.size+1]?=some (.cells #[v] 4 (0,0))
section
variable {w V V' : World} {cs : Array Value} {v : Value}
theorem Ab.call (h:Ab w cs v V) (hb:Below V.heap.size V V') : Ab w cs v V':=⟨h.below.trans (hb.mono h.below.size),(hb.block _ (lt_of h.got)).trans h.got,(hb.block _ (lt_of h.ok)).trans h.ok⟩
theorem Ab.only {g : Nat} (h:Ab w cs v V) (hg:w.heap.size+1<g) (ho:Only (fun k=>k=g) V.heap.size V V') : Ab w cs v V':=
 ⟨h.below.trans (Only.below (ho.mono (B':=w.heap.size) h.below.size (fun _ _ k=>k)) (Nat.le_refl _) (fun k hk e=>by omega)),(ho.block _ (lt_of h.got) (by omega)).trans h.got,(ho.block _ (lt_of h.ok) (by omega)).trans h.ok⟩
theorem Ab.start (w:World) (cs:Array Value) (v:Value) : Ab w cs v ((w.alloc (.cells cs 117)).alloc (.cells #[v] 4)):=
 ⟨((Below.refl _ _).alloc (Nat.le_refl _) _).alloc (by simp) _,heap_alloc2_old w _ _,heap_alloc2_new w _ _⟩
theorem Ab.put {v0 v1 v2 v3 v4 v5 v6 : Value} (h:Ab w #[v0,v1,v2,v3,v4,v5,v6] v V) (u0 u1 u2 u3 u4 u5 u6 : Value) : Ab w #[u0,u1,u2,u3,u4,u5,u6] v (((((((V.setCell ⟨w.heap.size,0,none⟩ u0).setCell ⟨w.heap.size,1,none⟩ u1).setCell ⟨w.heap.size,2,none⟩ u2).setCell ⟨w.heap.size,3,none⟩ u3).setCell ⟨w.heap.size,4,none⟩ u4).setCell ⟨w.heap.size,5,none⟩ u5).setCell ⟨w.heap.size,6,none⟩ u6):=by
 refine⟨?_,set7 h.got _ _ _ _ _ _ _,?_⟩
 ·exact ((((((h.below.setCell (p:=⟨w.heap.size,0,none⟩) (Nat.le_refl _) _).setCell (p:=⟨w.heap.size,1,none⟩) (Nat.le_refl _) _).setCell (p:=⟨w.heap.size,2,none⟩) (Nat.le_refl _) _).setCell (p:=⟨w.heap.size,3,none⟩) (Nat.le_refl _) _).setCell (p:=⟨w.heap.size,4,none⟩) (Nat.le_refl _) _).setCell (p:=⟨w.heap.size,5,none⟩) (Nat.le_refl _) _).setCell (p:=⟨w.heap.size,6,none⟩) (Nat.le_refl _) _
 ·rw [heap_setCell_other _ _ _ _ (by simp),heap_setCell_other _ _ _ _ (by simp),heap_setCell_other _ _ _ _ (by simp),heap_setCell_other _ _ _ _ (by simp),heap_setCell_other _ _ _ _ (by simp),heap_setCell_other _ _ _ _ (by simp),heap_setCell_other _ _ _ _ (by simp)]
  exact h.ok
theorem Ab.flag (h:Ab w cs v V) (u:Value) : Ab w cs u (V.setCell ⟨w.heap.size+1,0,none⟩ u):=by
 refine⟨h.below.setCell (p:=⟨w.heap.size+1,0,none⟩) (by simp) _,(heap_setCell_other _ _ _ _ (by simp)).trans h.got,?_⟩
 have e:=heap_setCell_same _ _ 0 _ _ u h.ok
 simpa using e
end
theorem Ab.caught {w V : World} {v0 v1 v2 v3 v4 v5 v6 v : Value} (h:Ab w #[v0,v1,v2,v3,v4,v5,v6] v V) :
  Ab w #[.int .u64 0,.string ⟨#[]⟩,.int .u64 0,.int .u64 0,.int .u64 0,.int .u64 0,.int .i64 0] (.bool false) (((((((((V.alloc (.cells #[.int .u64 0,.string ⟨#[]⟩,.int .u64 0,.int .u64 0,.int .u64 0,.int .u64 0,.int .i64 0] 117)).setCell ⟨w.heap.size,0,none⟩ (.int .u64 0)).setCell ⟨w.heap.size,1,none⟩ (.string ⟨#[]⟩)).setCell ⟨w.heap.size,2,none⟩ (.int .u64 0)).setCell ⟨w.heap.size,3,none⟩ (.int .u64 0)).setCell ⟨w.heap.size,4,none⟩ (.int .u64 0)).setCell ⟨w.heap.size,5,none⟩ (.int .u64 0)).setCell ⟨w.heap.size,6,none⟩ (.int .i64 0)).setCell ⟨w.heap.size+1,0,none⟩ (.bool false)):=
 ((h.call ((Below.refl _ _).alloc (Nat.le_refl _) _)).put _ _ _ _ _ _ _).flag _
theorem enterA (args:Array Value) (w:World) : (callFunc 148 args).run Tryz.prog w=.ok (.enter 148 args) w:=enters_of Tryz.func148 (by kernel_rfl) rfl args w
theorem enterP (args:Array Value) (w:World) : (callFunc 149 args).run Tryz.prog w=.ok (.enter 149 args) w:=enters_of Tryz.func149 (by kernel_rfl) rfl args w
set_option maxRecDepth 100000 in
set_option maxHeartbeats 4000000 in
theorem readAsk_c (s:List UInt8) (w:World) : Calls Tryz.prog 147 #[.string (str s),.int .i64 0,.func (.func 148) #[] #[],.func (.func 149) #[] #[]] w fun e w'=>GetAskR s w e w':=by
 have hsl : (str s).extract 0 (str s).size=str s:=by rw [str_drop]; simp
 have hz0 : (0:Int)≤((str s).size : Int):=by omega
 have HD:=Lib.hid (fun V=>decode_n s V)
 have hm:=hmf
 have A0:=Lib.hid (Ab.start w #[.int .u64 0,.string ⟨#[]⟩,.int .u64 0,.int .u64 0,.int .u64 0,.int .u64 0,.int .i64 0] (.bool false))
 have HT:=Lib.hid (str_eq · s)
 have enA:=enterA
 have enP:=enterP
 generalize hst : str s=y at *
 have HS:=Lib.hid hst
 clear hst
 go_enter_defers Tryz.func147,Tryz.ntmps147
 go_wp2_with fail
 refine (wmust_ok _).mono ?_
 rintro e w1 ⟨rfl,rfl⟩
 go_wp2_with fail
 refine (HD.out _).mono ?_
 rintro e w2 ⟨v,rfl,hv,hb⟩
 obtain⟨b2,t2,u2,rfl,hi⟩:=SlF_inner hv
 obtain⟨a2,n2,c2,rfl⟩:=hi.form
 have A2:=Lib.hid (A0.out.call hb)
 have hs2:=hb.size
 simp only [alloc_size] at hs2 hi
 clear hv hb A0 HD
 by_cases her : (decV s).2=0
 ·have hen:=decV_ok her
  have hil:=inner_len (decV s).1
  have hle : (decV s).1.enc.length≤65536:=decV_enc s
  have HX:=Lib.hid (fun (a:AskP) (hw:a.Wf) (ho:a.Ok) (h:a.enc=s)=>show (decV s).1.inner=a.fo from by
    have:=decV_of (x:=a.it) (s:=s) h (by have:=AskP.enc_len hw ho; unfold AskP.enc at this; omega) a.dep
    rw [this]; rfl)
  have HI:=Lib.hid (And.intro hi (show (decV s).1.inner.enc.length≤70000 by omega))
  rw [her]
  clear her hen hil hle hi
  generalize (decV s).1.inner=f at *
  obtain⟨W3,hW3⟩ : ∃ W3,W3=(w2.alloc (.cells #[.bool b2,.string t2,.slice a2 n2 c2] 198)).alloc (.cells #[.slice a2 n2 c2] 286):=⟨_,rfl⟩
  have hb3 : Below w2.heap.size w2 W3:=by rw [hW3]; exact ((Below.refl _ _).alloc (Nat.le_refl _) _).alloc (by simp) _
  have A3:=Lib.hid (A2.out.call hb3)
  have hfd : Fd (fun k=>w.heap.size+1+1≤k∧k<w2.heap.size) (w2.heap.size+1) f W3:=by
   refine⟨fun k hk=>⟨by have:=hb3.size; omega,by omega⟩,_,by rw [hW3]; exact heap_alloc2_new _ _ _,HI.out.1.kept fun k hk=>hb3.block k hk.2⟩
  have HA:=Lib.hid (ask_c hfd HI.out.2)
  have HW:=Lib.hid hW3
  clear hb3 hfd hW3
  unfold fN fT fW at HA
  go_wp2_with fail
  refine (wmust_ok _).mono ?_
  rintro e w4 ⟨rfl,rfl⟩
  go_wp2_with fail
  rw [← HW.out]
  refine HA.out.mono ?_
  rintro e w5 ⟨ho,hr⟩
  have A5:=Lib.hid (A3.out.only (by omega) ho)
  clear ho A3 HA HI
  rcases hr with ⟨rfl,hno⟩ | ⟨a,rfl,haw,hone⟩
  ·have HN:=Lib.hid (show AskIs s none from fun a hw ho h=>hno a hw ho (HX.out a hw ho h))
   clear hno HX
   refine leaves_cons (f:=185) (args:=#[.pointer (some ⟨w.heap.size,0,none⟩),.pointer (some ⟨w.heap.size+1,0,none⟩)]) (by simp) (by simp [go_sem]) ?_
   refine (acatch_panicking w.heap.size (w.heap.size+1) _ _ _ _ _ _ _ _ 27 (.int .i64 2) [] _ A5.out.got A5.out.ok (by omega)).mono ?_
   rintro e u' w'' ⟨rfl,rfl,rfl⟩
   refine⟨_,ar_results _ _ w.heap.size (w.heap.size+1) _ _ rfl rfl A5.out.caught.got rfl A5.out.caught.ok,?_⟩
   exact⟨none,HN.out,rfl,A5.out.caught.below⟩
  ·have HN:=Lib.hid (show ¬ (a.Ok∧a.enc=s)→AskIs s none from fun hn b hw ho h=>hn (by
     have:=hone b hw ho (HX.out b hw ho h)
     subst this
     exact⟨ho,h⟩))
   have HP:=Lib.hid (fun V=>putAsk_c haw V)
   have HWa:=Lib.hid haw
   clear hone haw HX
   obtain⟨_,z0,z1,z2,z3,z4,z5,z6⟩:=cells7 A5.out.got
   obtain⟨⟨c0,c1,c2',c3,c4,c5,c6⟩,_⟩:=cells7 A5.out.got
   have A6:=A5.out.put (.int .u64 a.id) (.string (str a.addr)) (.int .u64 (l3 a.slot : Nat)) (.int .u64 (l2 a.slot : Nat)) (.int .u64 (l1 a.slot : Nat)) (.int .u64 (l0 a.slot : Nat)) (.int .i64 a.kind)
   obtain⟨⟨d0,d1,d2,d3,d4,d5,d6⟩,_⟩:=cells7 A6.got
   have H6:=Lib.hid A6
   clear A6
   unfold askV at HP ⊢
   go_wp2_with fail
   refine (HP.out _).mono ?_
   rintro e w7 ⟨rfl,hb7⟩
   have A7:=Lib.hid (H6.out.call hb7)
   clear hb7 HP H6 z0 z1 z2 z3 z4 z5 z6 c0 c1 c2' c3 c4 c5 c6 d0 d1 d2 d3 d4 d5 d6
   have q0:=cell_of A7.out.ok 0
   have q1:=free_of A7.out.ok 0
   by_cases hok : a.Ok
   ·rw [putAskV_ok hok]
    have A8:=Lib.hid (A7.out.flag (.bool true))
    have q2:=cell_of A8.out.ok 0
    by_cases he : a.enc=s
    ·have hcmp : ((str a.enc).toList == y.toList)=true:=by rw [HT.out,he]; simp
     have HO:=Lib.hid (show AskIs s (some a) from⟨HWa.out,hok,he⟩)
     clear hok he HN
     generalize str a.enc=z at *
     go_wp2_with fail
     refine (wmust_ok _).mono ?_
     rintro e w9 ⟨rfl,rfl⟩
     obtain⟨⟨c0,c1,c2',c3,c4,c5,c6⟩,z0,z1,z2,z3,z4,z5,z6⟩:=cells7 A8.out.got
     have A9:=A8.out.put (.int .u64 a.id) (.string (str a.addr)) (.int .u64 (l3 a.slot : Nat)) (.int .u64 (l2 a.slot : Nat)) (.int .u64 (l1 a.slot : Nat)) (.int .u64 (l0 a.slot : Nat)) (.int .i64 a.kind)
     have q5:=cell_of A9.ok 0
     have q6:=free_of A9.ok 0
     have H9:=Lib.hid (A9.flag (.bool true))
     clear A9 q0 q1 q2
     go_wp2_with fail
     refine leaves_cons (f:=185) (args:=#[.pointer (some ⟨w.heap.size,0,none⟩),.pointer (some ⟨w.heap.size+1,0,none⟩)]) (by simp) (by simp [go_sem]) ?_
     refine (acatch_idle _ _ _).mono ?_
     rintro e u' w'' ⟨rfl,rfl,rfl⟩
     refine⟨_,ar_results _ _ w.heap.size (w.heap.size+1) _ _ rfl rfl H9.out.got rfl H9.out.ok,?_⟩
     exact⟨some a,HO.out,rfl,H9.out.below⟩
    ·have hcmp : ((str a.enc).toList == y.toList)=false:=by rw [HT.out]; simp [he]
     have HO:=Lib.hid (HN.out (fun h=>he h.2))
     clear hok he HN
     generalize str a.enc=z at *
     go_wp2_with fail
     refine (wmust_no _).mono ?_
     rintro e w9 ⟨rfl,rfl⟩
     refine leaves_cons (f:=185) (args:=#[.pointer (some ⟨w.heap.size,0,none⟩),.pointer (some ⟨w.heap.size+1,0,none⟩)]) (by simp) (by simp [go_sem]) ?_
     refine (acatch_panicking w.heap.size (w.heap.size+1) _ _ _ _ _ _ _ _ 27 (.int .i64 2) [] _ A8.out.got A8.out.ok (by omega)).mono ?_
     rintro e u' w'' ⟨rfl,rfl,rfl⟩
     refine⟨_,ar_results _ _ w.heap.size (w.heap.size+1) _ _ rfl rfl A8.out.caught.got rfl A8.out.caught.ok,?_⟩
     exact⟨none,HO.out,rfl,A8.out.caught.below⟩
   ·rw [putAskV_no hok]
    have A8:=Lib.hid (A7.out.flag (.bool false))
    have q2:=cell_of A8.out.ok 0
    have HO:=Lib.hid (HN.out (fun h=>hok h.1))
    clear hok HN
    go_wp2_with fail
    refine (wmust_no _).mono ?_
    rintro e w9 ⟨rfl,rfl⟩
    refine leaves_cons (f:=185) (args:=#[.pointer (some ⟨w.heap.size,0,none⟩),.pointer (some ⟨w.heap.size+1,0,none⟩)]) (by simp) (by simp [go_sem]) ?_
    refine (acatch_panicking w.heap.size (w.heap.size+1) _ _ _ _ _ _ _ _ 27 (.int .i64 2) [] _ A8.out.got A8.out.ok (by omega)).mono ?_
    rintro e u' w'' ⟨rfl,rfl,rfl⟩
    refine⟨_,ar_results _ _ w.heap.size (w.heap.size+1) _ _ rfl rfl A8.out.caught.got rfl A8.out.caught.ok,?_⟩
    exact⟨none,HO.out,rfl,A8.out.caught.below⟩
 ·have HN:=Lib.hid (show AskIs s none from fun a hw ho h=>her (by
    rw [decV_of (x:=a.it) (s:=s) h (by have:=AskP.enc_len hw ho; unfold AskP.enc at this; omega) a.dep]))
  have heb : ((((decV s).2 : Nat) : Int) == 0)=false:=by rw [beq_eq_false_iff_ne]; omega
  generalize (decV s).2=er at *
  have A3:=Lib.hid (A2.out.call ((Below.refl w2.heap.size w2).alloc (Nat.le_refl _) (.cells #[.bool b2,.string t2,.slice a2 n2 c2] 198)))
  clear her hi
  go_wp2_with fail
  refine (wmust_no _).mono ?_
  rintro e w9 ⟨rfl,rfl⟩
  refine leaves_cons (f:=185) (args:=#[.pointer (some ⟨w.heap.size,0,none⟩),.pointer (some ⟨w.heap.size+1,0,none⟩)]) (by simp) (by simp [go_sem]) ?_
  refine (acatch_panicking w.heap.size (w.heap.size+1) _ _ _ _ _ _ _ _ 27 (.int .i64 2) [] _ A3.out.got A3.out.ok (by omega)).mono ?_
  rintro e u' w'' ⟨rfl,rfl,rfl⟩
  refine⟨_,ar_results _ _ w.heap.size (w.heap.size+1) _ _ rfl rfl A3.out.caught.got rfl A3.out.caught.ok,?_⟩
  exact⟨none,HN.out,rfl,A3.out.caught.below⟩
set_option maxRecDepth 100000 in
theorem getAsk_c (s:List UInt8) (w:World) : Calls Tryz.prog 104 #[.string (str s)] w fun e w'=>GetAskR s w e w':=by
 have hal : Below w.heap.size w (w.alloc (.cells #[.int .u64 0,.string ⟨#[]⟩,.int .u64 0,.int .u64 0,.int .u64 0,.int .u64 0,.int .i64 0] 117)):=(Below.refl _ _).alloc (Nat.le_refl _) _
 have hx:=heap_alloc_new w (.cells #[.int .u64 0,.string ⟨#[]⟩,.int .u64 0,.int .u64 0,.int .u64 0,.int .u64 0,.int .i64 0] 117)
 have C:=Lib.hid (fun V=>readAsk_c s V)
 have HA:=Lib.hid (And.intro hal hx)
 clear hal hx
 generalize str s=y at *
 go_enter Tryz.func104,Tryz.ntmps104
 go_wp2_with fail
 refine (C.out _).mono ?_
 rintro e w1 ⟨o,ho,rfl,hb⟩
 have kb:=(hb.block _ (lt_of HA.out.2)).trans HA.out.2
 obtain⟨⟨c0,c1,c2,c3,c4,c5,c6⟩,z0,z1,z2,z3,z4,z5,z6⟩:=cells7 kb
 have HB:=Lib.hid (And.intro (HA.out.1.trans (hb.mono (by simp))) kb)
 have HO:=Lib.hid ho
 clear hb kb ho HA C
 cases o with
 | none=>
  unfold askO
  go_wp2_with fail
  refine bodyPost_ret (results_cell_slot Tryz.results104 _ _ _ _ _ _ _ _ rfl rfl (set7 HB.out.2 _ _ _ _ _ _ _) Tryz.underlying117 rfl (by kernel_rfl)) rfl ⟨none,HO.out,rfl,?_⟩
  exact ((((((HB.out.1.setCell (p:=⟨w.heap.size,0,none⟩) (Nat.le_refl _) _).setCell (p:=⟨w.heap.size,1,none⟩) (Nat.le_refl _) _).setCell (p:=⟨w.heap.size,2,none⟩) (Nat.le_refl _) _).setCell (p:=⟨w.heap.size,3,none⟩) (Nat.le_refl _) _).setCell (p:=⟨w.heap.size,4,none⟩) (Nat.le_refl _) _).setCell (p:=⟨w.heap.size,5,none⟩) (Nat.le_refl _) _).setCell (p:=⟨w.heap.size,6,none⟩) (Nat.le_refl _) _
 | some a=>
  unfold askO askV
  go_wp2_with fail
  refine bodyPost_ret (results_cell_slot Tryz.results104 _ _ _ _ _ _ _ _ rfl rfl (set7 HB.out.2 _ _ _ _ _ _ _) Tryz.underlying117 rfl (by kernel_rfl)) rfl ⟨some a,HO.out,rfl,?_⟩
  exact ((((((HB.out.1.setCell (p:=⟨w.heap.size,0,none⟩) (Nat.le_refl _) _).setCell (p:=⟨w.heap.size,1,none⟩) (Nat.le_refl _) _).setCell (p:=⟨w.heap.size,2,none⟩) (Nat.le_refl _) _).setCell (p:=⟨w.heap.size,3,none⟩) (Nat.le_refl _) _).setCell (p:=⟨w.heap.size,4,none⟩) (Nat.le_refl _) _).setCell (p:=⟨w.heap.size,5,none⟩) (Nat.le_refl _) _).setCell (p:=⟨w.heap.size,6,none⟩) (Nat.le_refl _) _
end Go.Proofs.YtekoaheiapddiaaGreat
end
