/- Merged: Vx, QPlain. -/
import Derived.Test.YtekoaheiapddiaaGreatM23
import Derived.Deep.CutRange
import Derived.Test.YtekoaheiapddiaaGreatRows
import Derived.ProofKit
import Derived.OpenShut
import Derived.WalkKit
import Derived.Lib.SmallJoins
import Derived.ChangeMaps5
import Derived.ShutString
section
namespace Go.Proofs.YtekoaheiapddiaaGreat
open Go.RowKit
set_option maxRecDepth 100000 in
set_option maxHeartbeats 40000000 in
theorem rgetAsk_c (s:List UInt8) (w:World) : Calls Tryz.prog 57 #[.string (str s)] w fun e w'=>GetAskR s w e w':=by
 have HD:=Lib.hid (fun V=>rdecode_n s V)
 have K0:=Lib.hid ((Kb.start w).box #[.int .u64 0,.string ⟨#[]⟩,.int .u64 0,.int .u64 0,.int .u64 0,.int .u64 0,.int .i64 0] 128)
 have HT:=Lib.hid (str_eq · s)
 generalize hst : str s=y at *
 have HS:=Lib.hid hst
 clear hst
 go_enter Tryz.func57,Tryz.ntmps57
 go_wp2_with fail
 refine (HD.out _).mono ?_
 rintro e w1 ⟨v,rfl,hv,hb⟩
 obtain⟨b2,t2,u2,rfl,hi⟩:=SlF_inner hv
 obtain⟨a2,n2,c2,rfl⟩:=hi.form
 have K1:=Lib.hid ((K0.out.call hb).box #[.bool b2,.string t2,.slice a2 n2 c2] 125)
 have hs1:=hb.size
 clear hv hb HD K0
 simp only [alloc_size] at hs1 hi
 by_cases her : (decV s).2=0
 ·have hen:=decV_ok her
  have hil:=inner_len (decV s).1
  have hle : (decV s).1.enc.length≤65536:=decV_enc s
  have HX:=Lib.hid (fun (a:AskP) (hw:a.Wf) (ho:a.Ok) (h:a.enc=s)=>show (decV s).1.inner=a.fo from by
    have:=decV_of (x:=a.it) (s:=s) h (by have:=AskP.enc_len hw ho; unfold AskP.enc at this; omega) a.dep
    rw [this]; rfl)
  rw [her]
  clear her hen hil hle
  generalize (decV s).1.inner=f at *
  have hlen : n2=f.len:=by
   rcases hi with ⟨h1,h2⟩ | ⟨g,o,c,h1,_⟩
   ·injection h1 with _ h1; rw [h1,h2]; rfl
   ·injection h1 with _ h1
  by_cases h3 : 3≤f.len
  ·obtain⟨x0,x1,x2,r,rfl⟩:=fo_three h3
   have hn3 : ¬ (n2:Int)<3:=by omega
   obtain⟨g,o,rfl,hgs,hat⟩ : ∃ g o,a2=some ⟨g,o,none⟩∧(w.heap.size+1≤g∧g<w1.heap.size)∧(x0.fo (x1.fo (x2.fo r))).At (fun k=>w.heap.size+1≤k∧k<w1.heap.size) g o w1:=by
    rcases hi with ⟨_,h2⟩ | ⟨g,o,c,h1,h2,h4,h5⟩
    ·cases x0 <;> simp [It.fo] at h2
    ·injection h1 with h1; exact⟨g,o,h1,h2,h5⟩
   have hP:=Lib.hid (show (askOf x0 x1 x2 r).Wf∧(∀ b : AskP,b.Wf→b.Ok→b.enc=s→askOf x0 x1 x2 r=b) from⟨askOf_wf _ _ _ _,fun b hw ho h=>askOf_fo hw ho (HX.out b hw ho h).symm⟩)
   have G1:=Lib.hid (show Ga w (fun k=>w.heap.size+1≤k∧k<w1.heap.size) (x0.fo (x1.fo (x2.fo r))) g o _ _ from⟨K1.out,Fo.At.kept (fun k hk=>Below.heap_alloc w1 _ k hk.2) _ g o hgs hat,fun k hk=>Nat.lt_of_lt_of_le hk.2 (by simp),hgs⟩)
   have hrl : n2=r.len+3:=by rw [hlen,fo_len,fo_len,fo_len]
   have HR:=Lib.hid hrl
   have hi0 : (0:Int)<(n2:Int):=by omega
   have hi1 : (1:Int)<(n2:Int):=by omega
   have hi2 : (2:Int)<(n2:Int):=by omega
   clear hi hat HX hlen h3 K1 hrl
   obtain⟨⟨i0,i1,i2⟩,_⟩:=cells3 (G1.out.kb.get (.head _))
   obtain⟨_,_,⟨xb2,a4,m4,k4,p0,p1,p2,p3⟩,_⟩:=G1.out.items
   clear p3
   have G2:=Lib.hid (G1.out.box #[.int .u64 0,.string (str x2.txt),.int .u64 0,.int .u64 0,.int .u64 0,.int .u64 0,.int .i64 0] 128)
   simp only [alloc_size] at G2
   have HW:=Lib.hid (show w.heap.size+1<w1.heap.size from by have:=hgs; omega)
   clear G1
   obtain⟨⟨xb0,a0,m0,k0,q0,q1,q2,q3⟩,_⟩:=G2.out.items
   have HQ:=Lib.hid q3
   clear q3
   have HL:=Lib.hid (show (∀ k,(w.heap.size+1≤k∧k<w1.heap.size)→k≠w1.heap.size+1)∧(∀ p∈([(w1.heap.size,#[.bool b2,.string t2,.slice (some ⟨g,o,none⟩) n2 c2],125),(w.heap.size,#[.int .u64 0,.string ⟨#[]⟩,.int .u64 0,.int .u64 0,.int .u64 0,.int .u64 0,.int .i64 0],128)] : List (Nat×Array Value×TypeId)),p.1≠w1.heap.size+1)∧w.heap.size≤w1.heap.size+1 from
     ⟨fun k hk=>by omega,fun p hp=>by
       have:=HW.out
       simp only [List.mem_cons,List.not_mem_nil,or_false] at hp
       rcases hp with rfl | rfl <;> simp only <;> omega,by have:=HW.out; omega⟩)
   clear hgs
   go_wp2_with fail
   generalize w1.heap.size=g1 at *
   refine (rsmall_it _ _ _ _ HQ.out).mono ?_
   rintro e w3 ⟨rfl,hb⟩
   have G3:=Lib.hid (G2.out.call hb)
   clear hb G2 HQ i0 i1 i2 p0 p1 p2 q0 q1 q2
   obtain⟨_,z0,z1,z2,z3,z4,z5,z6⟩:=cells7 (G3.out.kb.get (.head _))
   have G4:=Lib.hid (G3.out.set HL.out.2.2 HL.out.1 HL.out.2.1 0 (.int .u64 ((smallR x0).1 : Nat)) (cs':=#[.int .u64 ((smallR x0).1 : Nat),.string (str x2.txt),.int .u64 0,.int .u64 0,.int .u64 0,.int .u64 0,.int .i64 0]) rfl)
   clear G3
   obtain⟨⟨i0,i1,i2⟩,_⟩:=cells3 (G4.out.kb.get (.tail _ (.head _)))
   obtain⟨_,⟨xb1,a1,m1,k1,q0,q1,q2,q3⟩,_⟩:=G4.out.items
   have HQ:=Lib.hid q3
   clear q3
   go_wp2_with fail
   refine (rsmall_it _ _ _ _ HQ.out).mono ?_
   rintro e w5 ⟨rfl,hb⟩
   have G5:=Lib.hid (G4.out.call hb)
   clear hb G4 HQ i0 i1 i2 q0 q1 q2 z0 z1 z2 z3 z4 z5 z6
   obtain⟨⟨i0,i1,i2⟩,_⟩:=cells3 (G5.out.kb.get (.tail _ (.head _)))
   obtain⟨hcl,z0,z1,z2,z3,z4,z5,z6⟩:=cells7 (G5.out.kb.get (.head _))
   generalize hn1 : (smallR x1).1=n1 at *
   have hkind : kindOf n1=(askOf x0 x1 x2 r).kind:=by rw [← hn1]; rfl
   by_cases h1 : n1=1
   ·subst h1
    have hk8 : kindOf 1=1:=rfl
    have G6:=Lib.hid (G5.out.set HL.out.2.2 HL.out.1 HL.out.2.1 6 (.int .i64 1) (cs':=#[.int .u64 ((smallR x0).1 : Nat),.string (str x2.txt),.int .u64 0,.int .u64 0,.int .u64 0,.int .u64 0,.int .i64 1]) rfl)
    clear G5
    rcases r.cases_it with hr | ⟨x3,r',hr⟩
    ·have hslot : slotOf r=(askOf x0 x1 x2 r).slot:=rfl
     have hn4 : ¬ (3:Int)<(n2:Int):=by have:=HR.out; rw [hr] at this; simp only [Fo.len] at this; omega
     have hsr : slotOf r=0:=by rw [hr]; rfl
     have G8:=Lib.hid (G6.out.cast (cs':=#[.int .u64 ((smallR x0).1 : Nat),.string (str x2.txt),.int .u64 (l3 (slotOf r) : Nat),.int .u64 (l2 (slotOf r) : Nat),.int .u64 (l1 (slotOf r) : Nat),.int .u64 (l0 (slotOf r) : Nat),.int .i64 1]) (by rw [hsr,lim_zero.1,lim_zero.2.1,lim_zero.2.2.1,lim_zero.2.2.2]; rfl))
     clear G6 hr hsr
     obtain⟨a,ha⟩ : ∃ a,a=askOf x0 x1 x2 r:=⟨_,rfl⟩
     have hea : (#[.int .u64 ((smallR x0).1 : Nat),.string (str x2.txt),.int .u64 (l3 (slotOf r) : Nat),.int .u64 (l2 (slotOf r) : Nat),.int .u64 (l1 (slotOf r) : Nat),.int .u64 (l0 (slotOf r) : Nat),.int .i64 1] : Array Value)=askCells a:=by rw [ha]; unfold askCells; rw [← hkind,← hslot,hk8]; rfl
     replace G8:=Lib.hid (G8.out.cast hea)
     have HPa:=hP
     rw [← ha] at HPa
     have hcA:=G8.out.kb.get (.head _)
     unfold askCells at hcA
     obtain⟨⟨d0,d1,d2,d3,d4,d5,d6⟩,_⟩:=cells7 hcA
     clear hcA
     have hcI:=G8.out.kb.get (.tail _ (.head _))
     obtain⟨⟨j0,j1,j2⟩,_⟩:=cells3 hcI
     clear hcI hea ha hkind hslot hk8 hn3 hP hn1
     go_wp2_with fail
     refine (rputAsk_c HPa.out.1 _).mono ?_
     rintro e w9 ⟨rfl,hb⟩
     have G9:=Lib.hid (G8.out.call hb)
     clear hb G8 d0 d1 d2 d3 d4 d5 d6 z0 z1 z2 z3 z4 z5 z6 i0 i1 i2 j0 j1 j2 hi0 hi1 hi2
     have HN:=Lib.hid (show ¬ (a.Ok∧a.enc=s)→AskIs s none from fun hn b hw ho h=>hn (by
       have:=HPa.out.2 b hw ho h
       subst this
       exact⟨ho,h⟩))
     obtain⟨_,z0,z1,z2,z3,z4,z5,z6⟩:=cells7 (G9.out.kb.get (.tail _ (.tail _ (.head _))))
     by_cases hok : a.Ok
     ·rw [putAskV_ok hok]
      by_cases he : a.enc=s
      ·have hcmp : ((str a.enc).toList == y.toList)=true:=by rw [HT.out,he]; simp
       have HO:=Lib.hid (show AskIs s (some a) from⟨HPa.out.1,hok,he⟩)
       have hcA:=G9.out.kb.get (.head _)
       unfold askCells at hcA
       obtain⟨⟨d0,d1,d2,d3,d4,d5,d6⟩,_⟩:=cells7 hcA
       clear hcA
       have hR:=Lib.hid (set7 (G9.out.kb.get (.tail _ (.tail _ (.head _)))) (.int .u64 a.id) (.string (str a.addr)) (.int .u64 (l3 a.slot : Nat)) (.int .u64 (l2 a.slot : Nat)) (.int .u64 (l1 a.slot : Nat)) (.int .u64 (l0 a.slot : Nat)) (.int .i64 a.kind))
       have hB:=Lib.hid (Below.set7 (b:=w.heap.size) G9.out.kb.below (Nat.le_refl _) (.int .u64 a.id) (.string (str a.addr)) (.int .u64 (l3 a.slot : Nat)) (.int .u64 (l2 a.slot : Nat)) (.int .u64 (l1 a.slot : Nat)) (.int .u64 (l0 a.slot : Nat)) (.int .i64 a.kind))
       clear hok he HN G9 HT
       generalize str a.enc=z at *
       go_wp2_with fail
       exact bodyPost_ret (results_cell_slot Tryz.results57 _ _ _ _ _ _ _ _ rfl rfl hR.out Tryz.underlying128 rfl (by kernel_rfl)) rfl ⟨some a,HO.out,rfl,hB.out⟩
      ·have hcmp : ((str a.enc).toList == y.toList)=false:=by rw [HT.out]; simp [he]
       have HO:=Lib.hid (HN.out (fun h=>he h.2))
       have hR:=Lib.hid (set7 (G9.out.kb.get (.tail _ (.tail _ (.head _)))) (.int .u64 0) (.string ⟨#[]⟩) (.int .u64 0) (.int .u64 0) (.int .u64 0) (.int .u64 0) (.int .i64 0))
       have hB:=Lib.hid (Below.set7 (b:=w.heap.size) G9.out.kb.below (Nat.le_refl _) (.int .u64 0) (.string ⟨#[]⟩) (.int .u64 0) (.int .u64 0) (.int .u64 0) (.int .u64 0) (.int .i64 0))
       clear hok he HN G9 HT
       generalize str a.enc=z at *
       go_wp2_with fail
       exact bodyPost_ret (results_cell_slot Tryz.results57 _ _ _ _ _ _ _ _ rfl rfl hR.out Tryz.underlying128 rfl (by kernel_rfl)) rfl ⟨none,HO.out,rfl,hB.out⟩
     ·rw [putAskV_no hok]
      have HO:=Lib.hid (HN.out (fun h=>hok h.1))
      have hR:=Lib.hid (set7 (G9.out.kb.get (.tail _ (.tail _ (.head _)))) (.int .u64 0) (.string ⟨#[]⟩) (.int .u64 0) (.int .u64 0) (.int .u64 0) (.int .u64 0) (.int .i64 0))
      have hB:=Lib.hid (Below.set7 (b:=w.heap.size) G9.out.kb.below (Nat.le_refl _) (.int .u64 0) (.string ⟨#[]⟩) (.int .u64 0) (.int .u64 0) (.int .u64 0) (.int .u64 0) (.int .i64 0))
      clear hok HN G9 HT
      go_wp2_with fail
      exact bodyPost_ret (results_cell_slot Tryz.results57 _ _ _ _ _ _ _ _ rfl rfl hR.out Tryz.underlying128 rfl (by kernel_rfl)) rfl ⟨none,HO.out,rfl,hB.out⟩
    ·have hslot : slotOf r=(askOf x0 x1 x2 r).slot:=rfl
     have hn4 : (3:Int)<(n2:Int):=by have:=HR.out; rw [hr,fo_len] at this; omega
     have HC:=Lib.hid (fun V=>rOf_c x3.txt V)
     rw [show (if x3.txt.length≤32 then ofL x3.txt else 0)=slotOf r by rw [hr,slotOf_it]] at HC
     obtain⟨_,_,_,hq⟩:=G6.out.items
     obtain⟨xb3,a3,m3,k3,q0,q1,q2,_⟩:=hq _ _ hr
     clear hq hr
     obtain⟨⟨i0',i1',i2'⟩,_⟩:=cells3 (G6.out.kb.get (.tail _ (.head _)))
     go_wp2_with fail
     refine (HC.out _).mono ?_
     rintro e w7 ⟨rfl,hb⟩
     have G7:=Lib.hid (G6.out.call hb)
     clear hb G6 q0 q1 q2 HC z0 z1 z2 z3 z4 z5 z6 i0' i1' i2'
     obtain⟨_,z0,z1,z2,z3,z4,z5,z6⟩:=cells7 (G7.out.kb.get (.head _))
     have G8:=Lib.hid ((((G7.out.set HL.out.2.2 HL.out.1 HL.out.2.1 2 (.int .u64 (l3 (slotOf r) : Nat)) rfl).set HL.out.2.2 HL.out.1 HL.out.2.1 3 (.int .u64 (l2 (slotOf r) : Nat)) rfl).set HL.out.2.2 HL.out.1 HL.out.2.1 4 (.int .u64 (l1 (slotOf r) : Nat)) rfl).set HL.out.2.2 HL.out.1 HL.out.2.1 5 (.int .u64 (l0 (slotOf r) : Nat)) (cs':=#[.int .u64 ((smallR x0).1 : Nat),.string (str x2.txt),.int .u64 (l3 (slotOf r) : Nat),.int .u64 (l2 (slotOf r) : Nat),.int .u64 (l1 (slotOf r) : Nat),.int .u64 (l0 (slotOf r) : Nat),.int .i64 1]) rfl)
     clear G7
     unfold wordV
     obtain⟨a,ha⟩ : ∃ a,a=askOf x0 x1 x2 r:=⟨_,rfl⟩
     have hea : (#[.int .u64 ((smallR x0).1 : Nat),.string (str x2.txt),.int .u64 (l3 (slotOf r) : Nat),.int .u64 (l2 (slotOf r) : Nat),.int .u64 (l1 (slotOf r) : Nat),.int .u64 (l0 (slotOf r) : Nat),.int .i64 1] : Array Value)=askCells a:=by rw [ha]; unfold askCells; rw [← hkind,← hslot,hk8]; rfl
     replace G8:=Lib.hid (G8.out.cast hea)
     have HPa:=hP
     rw [← ha] at HPa
     have hcA:=G8.out.kb.get (.head _)
     unfold askCells at hcA
     obtain⟨⟨d0,d1,d2,d3,d4,d5,d6⟩,_⟩:=cells7 hcA
     clear hcA
     have hcI:=G8.out.kb.get (.tail _ (.head _))
     obtain⟨⟨j0,j1,j2⟩,_⟩:=cells3 hcI
     clear hcI hea ha hkind hslot hk8 hn3 hP hn1
     go_wp2_with fail
     refine (rputAsk_c HPa.out.1 _).mono ?_
     rintro e w9 ⟨rfl,hb⟩
     have G9:=Lib.hid (G8.out.call hb)
     clear hb G8 d0 d1 d2 d3 d4 d5 d6 z0 z1 z2 z3 z4 z5 z6 i0 i1 i2 j0 j1 j2 hi0 hi1 hi2
     have HN:=Lib.hid (show ¬ (a.Ok∧a.enc=s)→AskIs s none from fun hn b hw ho h=>hn (by
       have:=HPa.out.2 b hw ho h
       subst this
       exact⟨ho,h⟩))
     obtain⟨_,z0,z1,z2,z3,z4,z5,z6⟩:=cells7 (G9.out.kb.get (.tail _ (.tail _ (.head _))))
     by_cases hok : a.Ok
     ·rw [putAskV_ok hok]
      by_cases he : a.enc=s
      ·have hcmp : ((str a.enc).toList == y.toList)=true:=by rw [HT.out,he]; simp
       have HO:=Lib.hid (show AskIs s (some a) from⟨HPa.out.1,hok,he⟩)
       have hcA:=G9.out.kb.get (.head _)
       unfold askCells at hcA
       obtain⟨⟨d0,d1,d2,d3,d4,d5,d6⟩,_⟩:=cells7 hcA
       clear hcA
       have hR:=Lib.hid (set7 (G9.out.kb.get (.tail _ (.tail _ (.head _)))) (.int .u64 a.id) (.string (str a.addr)) (.int .u64 (l3 a.slot : Nat)) (.int .u64 (l2 a.slot : Nat)) (.int .u64 (l1 a.slot : Nat)) (.int .u64 (l0 a.slot : Nat)) (.int .i64 a.kind))
       have hB:=Lib.hid (Below.set7 (b:=w.heap.size) G9.out.kb.below (Nat.le_refl _) (.int .u64 a.id) (.string (str a.addr)) (.int .u64 (l3 a.slot : Nat)) (.int .u64 (l2 a.slot : Nat)) (.int .u64 (l1 a.slot : Nat)) (.int .u64 (l0 a.slot : Nat)) (.int .i64 a.kind))
       clear hok he HN G9 HT
       generalize str a.enc=z at *
       go_wp2_with fail
       exact bodyPost_ret (results_cell_slot Tryz.results57 _ _ _ _ _ _ _ _ rfl rfl hR.out Tryz.underlying128 rfl (by kernel_rfl)) rfl ⟨some a,HO.out,rfl,hB.out⟩
      ·have hcmp : ((str a.enc).toList == y.toList)=false:=by rw [HT.out]; simp [he]
       have HO:=Lib.hid (HN.out (fun h=>he h.2))
       have hR:=Lib.hid (set7 (G9.out.kb.get (.tail _ (.tail _ (.head _)))) (.int .u64 0) (.string ⟨#[]⟩) (.int .u64 0) (.int .u64 0) (.int .u64 0) (.int .u64 0) (.int .i64 0))
       have hB:=Lib.hid (Below.set7 (b:=w.heap.size) G9.out.kb.below (Nat.le_refl _) (.int .u64 0) (.string ⟨#[]⟩) (.int .u64 0) (.int .u64 0) (.int .u64 0) (.int .u64 0) (.int .i64 0))
       clear hok he HN G9 HT
       generalize str a.enc=z at *
       go_wp2_with fail
       exact bodyPost_ret (results_cell_slot Tryz.results57 _ _ _ _ _ _ _ _ rfl rfl hR.out Tryz.underlying128 rfl (by kernel_rfl)) rfl ⟨none,HO.out,rfl,hB.out⟩
     ·rw [putAskV_no hok]
      have HO:=Lib.hid (HN.out (fun h=>hok h.1))
      have hR:=Lib.hid (set7 (G9.out.kb.get (.tail _ (.tail _ (.head _)))) (.int .u64 0) (.string ⟨#[]⟩) (.int .u64 0) (.int .u64 0) (.int .u64 0) (.int .u64 0) (.int .i64 0))
      have hB:=Lib.hid (Below.set7 (b:=w.heap.size) G9.out.kb.below (Nat.le_refl _) (.int .u64 0) (.string ⟨#[]⟩) (.int .u64 0) (.int .u64 0) (.int .u64 0) (.int .u64 0) (.int .i64 0))
      clear hok HN G9 HT
      go_wp2_with fail
      exact bodyPost_ret (results_cell_slot Tryz.results57 _ _ _ _ _ _ _ _ rfl rfl hR.out Tryz.underlying128 rfl (by kernel_rfl)) rfl ⟨none,HO.out,rfl,hB.out⟩
   ·by_cases h2 : n1=2
    ·subst h2
     have hk8 : kindOf 2=2:=rfl
     have G6:=Lib.hid (G5.out.set HL.out.2.2 HL.out.1 HL.out.2.1 6 (.int .i64 2) (cs':=#[.int .u64 ((smallR x0).1 : Nat),.string (str x2.txt),.int .u64 0,.int .u64 0,.int .u64 0,.int .u64 0,.int .i64 2]) rfl)
     clear G5 h1
     rcases r.cases_it with hr | ⟨x3,r',hr⟩
     ·have hslot : slotOf r=(askOf x0 x1 x2 r).slot:=rfl
      have hn4 : ¬ (3:Int)<(n2:Int):=by have:=HR.out; rw [hr] at this; simp only [Fo.len] at this; omega
      have hsr : slotOf r=0:=by rw [hr]; rfl
      have G8:=Lib.hid (G6.out.cast (cs':=#[.int .u64 ((smallR x0).1 : Nat),.string (str x2.txt),.int .u64 (l3 (slotOf r) : Nat),.int .u64 (l2 (slotOf r) : Nat),.int .u64 (l1 (slotOf r) : Nat),.int .u64 (l0 (slotOf r) : Nat),.int .i64 2]) (by rw [hsr,lim_zero.1,lim_zero.2.1,lim_zero.2.2.1,lim_zero.2.2.2]; rfl))
      clear G6 hr hsr
      obtain⟨a,ha⟩ : ∃ a,a=askOf x0 x1 x2 r:=⟨_,rfl⟩
      have hea : (#[.int .u64 ((smallR x0).1 : Nat),.string (str x2.txt),.int .u64 (l3 (slotOf r) : Nat),.int .u64 (l2 (slotOf r) : Nat),.int .u64 (l1 (slotOf r) : Nat),.int .u64 (l0 (slotOf r) : Nat),.int .i64 2] : Array Value)=askCells a:=by rw [ha]; unfold askCells; rw [← hkind,← hslot,hk8]; rfl
      replace G8:=Lib.hid (G8.out.cast hea)
      have HPa:=hP
      rw [← ha] at HPa
      have hcA:=G8.out.kb.get (.head _)
      unfold askCells at hcA
      obtain⟨⟨d0,d1,d2,d3,d4,d5,d6⟩,_⟩:=cells7 hcA
      clear hcA
      have hcI:=G8.out.kb.get (.tail _ (.head _))
      obtain⟨⟨j0,j1,j2⟩,_⟩:=cells3 hcI
      clear hcI hea ha hkind hslot hk8 hn3 hP hn1
      go_wp2_with fail
      refine (rputAsk_c HPa.out.1 _).mono ?_
      rintro e w9 ⟨rfl,hb⟩
      have G9:=Lib.hid (G8.out.call hb)
      clear hb G8 d0 d1 d2 d3 d4 d5 d6 z0 z1 z2 z3 z4 z5 z6 i0 i1 i2 j0 j1 j2 hi0 hi1 hi2
      have HN:=Lib.hid (show ¬ (a.Ok∧a.enc=s)→AskIs s none from fun hn b hw ho h=>hn (by
        have:=HPa.out.2 b hw ho h
        subst this
        exact⟨ho,h⟩))
      obtain⟨_,z0,z1,z2,z3,z4,z5,z6⟩:=cells7 (G9.out.kb.get (.tail _ (.tail _ (.head _))))
      by_cases hok : a.Ok
      ·rw [putAskV_ok hok]
       by_cases he : a.enc=s
       ·have hcmp : ((str a.enc).toList == y.toList)=true:=by rw [HT.out,he]; simp
        have HO:=Lib.hid (show AskIs s (some a) from⟨HPa.out.1,hok,he⟩)
        have hcA:=G9.out.kb.get (.head _)
        unfold askCells at hcA
        obtain⟨⟨d0,d1,d2,d3,d4,d5,d6⟩,_⟩:=cells7 hcA
        clear hcA
        have hR:=Lib.hid (set7 (G9.out.kb.get (.tail _ (.tail _ (.head _)))) (.int .u64 a.id) (.string (str a.addr)) (.int .u64 (l3 a.slot : Nat)) (.int .u64 (l2 a.slot : Nat)) (.int .u64 (l1 a.slot : Nat)) (.int .u64 (l0 a.slot : Nat)) (.int .i64 a.kind))
        have hB:=Lib.hid (Below.set7 (b:=w.heap.size) G9.out.kb.below (Nat.le_refl _) (.int .u64 a.id) (.string (str a.addr)) (.int .u64 (l3 a.slot : Nat)) (.int .u64 (l2 a.slot : Nat)) (.int .u64 (l1 a.slot : Nat)) (.int .u64 (l0 a.slot : Nat)) (.int .i64 a.kind))
        clear hok he HN G9 HT
        generalize str a.enc=z at *
        go_wp2_with fail
        exact bodyPost_ret (results_cell_slot Tryz.results57 _ _ _ _ _ _ _ _ rfl rfl hR.out Tryz.underlying128 rfl (by kernel_rfl)) rfl ⟨some a,HO.out,rfl,hB.out⟩
       ·have hcmp : ((str a.enc).toList == y.toList)=false:=by rw [HT.out]; simp [he]
        have HO:=Lib.hid (HN.out (fun h=>he h.2))
        have hR:=Lib.hid (set7 (G9.out.kb.get (.tail _ (.tail _ (.head _)))) (.int .u64 0) (.string ⟨#[]⟩) (.int .u64 0) (.int .u64 0) (.int .u64 0) (.int .u64 0) (.int .i64 0))
        have hB:=Lib.hid (Below.set7 (b:=w.heap.size) G9.out.kb.below (Nat.le_refl _) (.int .u64 0) (.string ⟨#[]⟩) (.int .u64 0) (.int .u64 0) (.int .u64 0) (.int .u64 0) (.int .i64 0))
        clear hok he HN G9 HT
        generalize str a.enc=z at *
        go_wp2_with fail
        exact bodyPost_ret (results_cell_slot Tryz.results57 _ _ _ _ _ _ _ _ rfl rfl hR.out Tryz.underlying128 rfl (by kernel_rfl)) rfl ⟨none,HO.out,rfl,hB.out⟩
      ·rw [putAskV_no hok]
       have HO:=Lib.hid (HN.out (fun h=>hok h.1))
       have hR:=Lib.hid (set7 (G9.out.kb.get (.tail _ (.tail _ (.head _)))) (.int .u64 0) (.string ⟨#[]⟩) (.int .u64 0) (.int .u64 0) (.int .u64 0) (.int .u64 0) (.int .i64 0))
       have hB:=Lib.hid (Below.set7 (b:=w.heap.size) G9.out.kb.below (Nat.le_refl _) (.int .u64 0) (.string ⟨#[]⟩) (.int .u64 0) (.int .u64 0) (.int .u64 0) (.int .u64 0) (.int .i64 0))
       clear hok HN G9 HT
       go_wp2_with fail
       exact bodyPost_ret (results_cell_slot Tryz.results57 _ _ _ _ _ _ _ _ rfl rfl hR.out Tryz.underlying128 rfl (by kernel_rfl)) rfl ⟨none,HO.out,rfl,hB.out⟩
     ·have hslot : slotOf r=(askOf x0 x1 x2 r).slot:=rfl
      have hn4 : (3:Int)<(n2:Int):=by have:=HR.out; rw [hr,fo_len] at this; omega
      have HC:=Lib.hid (fun V=>rOf_c x3.txt V)
      rw [show (if x3.txt.length≤32 then ofL x3.txt else 0)=slotOf r by rw [hr,slotOf_it]] at HC
      obtain⟨_,_,_,hq⟩:=G6.out.items
      obtain⟨xb3,a3,m3,k3,q0,q1,q2,_⟩:=hq _ _ hr
      clear hq hr
      obtain⟨⟨i0',i1',i2'⟩,_⟩:=cells3 (G6.out.kb.get (.tail _ (.head _)))
      go_wp2_with fail
      refine (HC.out _).mono ?_
      rintro e w7 ⟨rfl,hb⟩
      have G7:=Lib.hid (G6.out.call hb)
      clear hb G6 q0 q1 q2 HC z0 z1 z2 z3 z4 z5 z6 i0' i1' i2'
      obtain⟨_,z0,z1,z2,z3,z4,z5,z6⟩:=cells7 (G7.out.kb.get (.head _))
      have G8:=Lib.hid ((((G7.out.set HL.out.2.2 HL.out.1 HL.out.2.1 2 (.int .u64 (l3 (slotOf r) : Nat)) rfl).set HL.out.2.2 HL.out.1 HL.out.2.1 3 (.int .u64 (l2 (slotOf r) : Nat)) rfl).set HL.out.2.2 HL.out.1 HL.out.2.1 4 (.int .u64 (l1 (slotOf r) : Nat)) rfl).set HL.out.2.2 HL.out.1 HL.out.2.1 5 (.int .u64 (l0 (slotOf r) : Nat)) (cs':=#[.int .u64 ((smallR x0).1 : Nat),.string (str x2.txt),.int .u64 (l3 (slotOf r) : Nat),.int .u64 (l2 (slotOf r) : Nat),.int .u64 (l1 (slotOf r) : Nat),.int .u64 (l0 (slotOf r) : Nat),.int .i64 2]) rfl)
      clear G7
      unfold wordV
      obtain⟨a,ha⟩ : ∃ a,a=askOf x0 x1 x2 r:=⟨_,rfl⟩
      have hea : (#[.int .u64 ((smallR x0).1 : Nat),.string (str x2.txt),.int .u64 (l3 (slotOf r) : Nat),.int .u64 (l2 (slotOf r) : Nat),.int .u64 (l1 (slotOf r) : Nat),.int .u64 (l0 (slotOf r) : Nat),.int .i64 2] : Array Value)=askCells a:=by rw [ha]; unfold askCells; rw [← hkind,← hslot,hk8]; rfl
      replace G8:=Lib.hid (G8.out.cast hea)
      have HPa:=hP
      rw [← ha] at HPa
      have hcA:=G8.out.kb.get (.head _)
      unfold askCells at hcA
      obtain⟨⟨d0,d1,d2,d3,d4,d5,d6⟩,_⟩:=cells7 hcA
      clear hcA
      have hcI:=G8.out.kb.get (.tail _ (.head _))
      obtain⟨⟨j0,j1,j2⟩,_⟩:=cells3 hcI
      clear hcI hea ha hkind hslot hk8 hn3 hP hn1
      go_wp2_with fail
      refine (rputAsk_c HPa.out.1 _).mono ?_
      rintro e w9 ⟨rfl,hb⟩
      have G9:=Lib.hid (G8.out.call hb)
      clear hb G8 d0 d1 d2 d3 d4 d5 d6 z0 z1 z2 z3 z4 z5 z6 i0 i1 i2 j0 j1 j2 hi0 hi1 hi2
      have HN:=Lib.hid (show ¬ (a.Ok∧a.enc=s)→AskIs s none from fun hn b hw ho h=>hn (by
        have:=HPa.out.2 b hw ho h
        subst this
        exact⟨ho,h⟩))
      obtain⟨_,z0,z1,z2,z3,z4,z5,z6⟩:=cells7 (G9.out.kb.get (.tail _ (.tail _ (.head _))))
      by_cases hok : a.Ok
      ·rw [putAskV_ok hok]
       by_cases he : a.enc=s
       ·have hcmp : ((str a.enc).toList == y.toList)=true:=by rw [HT.out,he]; simp
        have HO:=Lib.hid (show AskIs s (some a) from⟨HPa.out.1,hok,he⟩)
        have hcA:=G9.out.kb.get (.head _)
        unfold askCells at hcA
        obtain⟨⟨d0,d1,d2,d3,d4,d5,d6⟩,_⟩:=cells7 hcA
        clear hcA
        have hR:=Lib.hid (set7 (G9.out.kb.get (.tail _ (.tail _ (.head _)))) (.int .u64 a.id) (.string (str a.addr)) (.int .u64 (l3 a.slot : Nat)) (.int .u64 (l2 a.slot : Nat)) (.int .u64 (l1 a.slot : Nat)) (.int .u64 (l0 a.slot : Nat)) (.int .i64 a.kind))
        have hB:=Lib.hid (Below.set7 (b:=w.heap.size) G9.out.kb.below (Nat.le_refl _) (.int .u64 a.id) (.string (str a.addr)) (.int .u64 (l3 a.slot : Nat)) (.int .u64 (l2 a.slot : Nat)) (.int .u64 (l1 a.slot : Nat)) (.int .u64 (l0 a.slot : Nat)) (.int .i64 a.kind))
        clear hok he HN G9 HT
        generalize str a.enc=z at *
        go_wp2_with fail
        exact bodyPost_ret (results_cell_slot Tryz.results57 _ _ _ _ _ _ _ _ rfl rfl hR.out Tryz.underlying128 rfl (by kernel_rfl)) rfl ⟨some a,HO.out,rfl,hB.out⟩
       ·have hcmp : ((str a.enc).toList == y.toList)=false:=by rw [HT.out]; simp [he]
        have HO:=Lib.hid (HN.out (fun h=>he h.2))
        have hR:=Lib.hid (set7 (G9.out.kb.get (.tail _ (.tail _ (.head _)))) (.int .u64 0) (.string ⟨#[]⟩) (.int .u64 0) (.int .u64 0) (.int .u64 0) (.int .u64 0) (.int .i64 0))
        have hB:=Lib.hid (Below.set7 (b:=w.heap.size) G9.out.kb.below (Nat.le_refl _) (.int .u64 0) (.string ⟨#[]⟩) (.int .u64 0) (.int .u64 0) (.int .u64 0) (.int .u64 0) (.int .i64 0))
        clear hok he HN G9 HT
        generalize str a.enc=z at *
        go_wp2_with fail
        exact bodyPost_ret (results_cell_slot Tryz.results57 _ _ _ _ _ _ _ _ rfl rfl hR.out Tryz.underlying128 rfl (by kernel_rfl)) rfl ⟨none,HO.out,rfl,hB.out⟩
      ·rw [putAskV_no hok]
       have HO:=Lib.hid (HN.out (fun h=>hok h.1))
       have hR:=Lib.hid (set7 (G9.out.kb.get (.tail _ (.tail _ (.head _)))) (.int .u64 0) (.string ⟨#[]⟩) (.int .u64 0) (.int .u64 0) (.int .u64 0) (.int .u64 0) (.int .i64 0))
       have hB:=Lib.hid (Below.set7 (b:=w.heap.size) G9.out.kb.below (Nat.le_refl _) (.int .u64 0) (.string ⟨#[]⟩) (.int .u64 0) (.int .u64 0) (.int .u64 0) (.int .u64 0) (.int .i64 0))
       clear hok HN G9 HT
       go_wp2_with fail
       exact bodyPost_ret (results_cell_slot Tryz.results57 _ _ _ _ _ _ _ _ rfl rfl hR.out Tryz.underlying128 rfl (by kernel_rfl)) rfl ⟨none,HO.out,rfl,hB.out⟩
    ·have hk8 : kindOf n1=0:=if_neg (by omega)
     have hb1 : ((n1:Int) == 1)=false:=by rw [beq_eq_false_iff_ne]; omega
     have hb2 : ((n1:Int) == 2)=false:=by rw [beq_eq_false_iff_ne]; omega
     have G6:=G5
     clear G5 h1 h2 hcl
     rcases r.cases_it with hr | ⟨x3,r',hr⟩
     ·have hslot : slotOf r=(askOf x0 x1 x2 r).slot:=rfl
      have hn4 : ¬ (3:Int)<(n2:Int):=by have:=HR.out; rw [hr] at this; simp only [Fo.len] at this; omega
      have hsr : slotOf r=0:=by rw [hr]; rfl
      have G8:=Lib.hid (G6.out.cast (cs':=#[.int .u64 ((smallR x0).1 : Nat),.string (str x2.txt),.int .u64 (l3 (slotOf r) : Nat),.int .u64 (l2 (slotOf r) : Nat),.int .u64 (l1 (slotOf r) : Nat),.int .u64 (l0 (slotOf r) : Nat),.int .i64 0]) (by rw [hsr,lim_zero.1,lim_zero.2.1,lim_zero.2.2.1,lim_zero.2.2.2]; rfl))
      clear G6 hr hsr
      obtain⟨a,ha⟩ : ∃ a,a=askOf x0 x1 x2 r:=⟨_,rfl⟩
      have hea : (#[.int .u64 ((smallR x0).1 : Nat),.string (str x2.txt),.int .u64 (l3 (slotOf r) : Nat),.int .u64 (l2 (slotOf r) : Nat),.int .u64 (l1 (slotOf r) : Nat),.int .u64 (l0 (slotOf r) : Nat),.int .i64 0] : Array Value)=askCells a:=by rw [ha]; unfold askCells; rw [← hkind,← hslot,hk8]; rfl
      replace G8:=Lib.hid (G8.out.cast hea)
      have HPa:=hP
      rw [← ha] at HPa
      have hcA:=G8.out.kb.get (.head _)
      unfold askCells at hcA
      obtain⟨⟨d0,d1,d2,d3,d4,d5,d6⟩,_⟩:=cells7 hcA
      clear hcA
      have hcI:=G8.out.kb.get (.tail _ (.head _))
      obtain⟨⟨j0,j1,j2⟩,_⟩:=cells3 hcI
      clear hcI hea ha hkind hslot hk8 hn3 hP hn1
      go_wp2_with fail
      refine (rputAsk_c HPa.out.1 _).mono ?_
      rintro e w9 ⟨rfl,hb⟩
      have G9:=Lib.hid (G8.out.call hb)
      clear hb G8 d0 d1 d2 d3 d4 d5 d6 z0 z1 z2 z3 z4 z5 z6 i0 i1 i2 j0 j1 j2 hi0 hi1 hi2
      have HN:=Lib.hid (show ¬ (a.Ok∧a.enc=s)→AskIs s none from fun hn b hw ho h=>hn (by
        have:=HPa.out.2 b hw ho h
        subst this
        exact⟨ho,h⟩))
      obtain⟨_,z0,z1,z2,z3,z4,z5,z6⟩:=cells7 (G9.out.kb.get (.tail _ (.tail _ (.head _))))
      by_cases hok : a.Ok
      ·rw [putAskV_ok hok]
       by_cases he : a.enc=s
       ·have hcmp : ((str a.enc).toList == y.toList)=true:=by rw [HT.out,he]; simp
        have HO:=Lib.hid (show AskIs s (some a) from⟨HPa.out.1,hok,he⟩)
        have hcA:=G9.out.kb.get (.head _)
        unfold askCells at hcA
        obtain⟨⟨d0,d1,d2,d3,d4,d5,d6⟩,_⟩:=cells7 hcA
        clear hcA
        have hR:=Lib.hid (set7 (G9.out.kb.get (.tail _ (.tail _ (.head _)))) (.int .u64 a.id) (.string (str a.addr)) (.int .u64 (l3 a.slot : Nat)) (.int .u64 (l2 a.slot : Nat)) (.int .u64 (l1 a.slot : Nat)) (.int .u64 (l0 a.slot : Nat)) (.int .i64 a.kind))
        have hB:=Lib.hid (Below.set7 (b:=w.heap.size) G9.out.kb.below (Nat.le_refl _) (.int .u64 a.id) (.string (str a.addr)) (.int .u64 (l3 a.slot : Nat)) (.int .u64 (l2 a.slot : Nat)) (.int .u64 (l1 a.slot : Nat)) (.int .u64 (l0 a.slot : Nat)) (.int .i64 a.kind))
        clear hok he HN G9 HT
        generalize str a.enc=z at *
        go_wp2_with fail
        exact bodyPost_ret (results_cell_slot Tryz.results57 _ _ _ _ _ _ _ _ rfl rfl hR.out Tryz.underlying128 rfl (by kernel_rfl)) rfl ⟨some a,HO.out,rfl,hB.out⟩
       ·have hcmp : ((str a.enc).toList == y.toList)=false:=by rw [HT.out]; simp [he]
        have HO:=Lib.hid (HN.out (fun h=>he h.2))
        have hR:=Lib.hid (set7 (G9.out.kb.get (.tail _ (.tail _ (.head _)))) (.int .u64 0) (.string ⟨#[]⟩) (.int .u64 0) (.int .u64 0) (.int .u64 0) (.int .u64 0) (.int .i64 0))
        have hB:=Lib.hid (Below.set7 (b:=w.heap.size) G9.out.kb.below (Nat.le_refl _) (.int .u64 0) (.string ⟨#[]⟩) (.int .u64 0) (.int .u64 0) (.int .u64 0) (.int .u64 0) (.int .i64 0))
        clear hok he HN G9 HT
        generalize str a.enc=z at *
        go_wp2_with fail
        exact bodyPost_ret (results_cell_slot Tryz.results57 _ _ _ _ _ _ _ _ rfl rfl hR.out Tryz.underlying128 rfl (by kernel_rfl)) rfl ⟨none,HO.out,rfl,hB.out⟩
      ·rw [putAskV_no hok]
       have HO:=Lib.hid (HN.out (fun h=>hok h.1))
       have hR:=Lib.hid (set7 (G9.out.kb.get (.tail _ (.tail _ (.head _)))) (.int .u64 0) (.string ⟨#[]⟩) (.int .u64 0) (.int .u64 0) (.int .u64 0) (.int .u64 0) (.int .i64 0))
       have hB:=Lib.hid (Below.set7 (b:=w.heap.size) G9.out.kb.below (Nat.le_refl _) (.int .u64 0) (.string ⟨#[]⟩) (.int .u64 0) (.int .u64 0) (.int .u64 0) (.int .u64 0) (.int .i64 0))
       clear hok HN G9 HT
       go_wp2_with fail
       exact bodyPost_ret (results_cell_slot Tryz.results57 _ _ _ _ _ _ _ _ rfl rfl hR.out Tryz.underlying128 rfl (by kernel_rfl)) rfl ⟨none,HO.out,rfl,hB.out⟩
     ·have hslot : slotOf r=(askOf x0 x1 x2 r).slot:=rfl
      have hn4 : (3:Int)<(n2:Int):=by have:=HR.out; rw [hr,fo_len] at this; omega
      have HC:=Lib.hid (fun V=>rOf_c x3.txt V)
      rw [show (if x3.txt.length≤32 then ofL x3.txt else 0)=slotOf r by rw [hr,slotOf_it]] at HC
      obtain⟨_,_,_,hq⟩:=G6.out.items
      obtain⟨xb3,a3,m3,k3,q0,q1,q2,_⟩:=hq _ _ hr
      clear hq hr
      obtain⟨⟨i0',i1',i2'⟩,_⟩:=cells3 (G6.out.kb.get (.tail _ (.head _)))
      go_wp2_with fail
      refine (HC.out _).mono ?_
      rintro e w7 ⟨rfl,hb⟩
      have G7:=Lib.hid (G6.out.call hb)
      clear hb G6 q0 q1 q2 HC z0 z1 z2 z3 z4 z5 z6 i0' i1' i2'
      obtain⟨_,z0,z1,z2,z3,z4,z5,z6⟩:=cells7 (G7.out.kb.get (.head _))
      have G8:=Lib.hid ((((G7.out.set HL.out.2.2 HL.out.1 HL.out.2.1 2 (.int .u64 (l3 (slotOf r) : Nat)) rfl).set HL.out.2.2 HL.out.1 HL.out.2.1 3 (.int .u64 (l2 (slotOf r) : Nat)) rfl).set HL.out.2.2 HL.out.1 HL.out.2.1 4 (.int .u64 (l1 (slotOf r) : Nat)) rfl).set HL.out.2.2 HL.out.1 HL.out.2.1 5 (.int .u64 (l0 (slotOf r) : Nat)) (cs':=#[.int .u64 ((smallR x0).1 : Nat),.string (str x2.txt),.int .u64 (l3 (slotOf r) : Nat),.int .u64 (l2 (slotOf r) : Nat),.int .u64 (l1 (slotOf r) : Nat),.int .u64 (l0 (slotOf r) : Nat),.int .i64 0]) rfl)
      clear G7
      unfold wordV
      obtain⟨a,ha⟩ : ∃ a,a=askOf x0 x1 x2 r:=⟨_,rfl⟩
      have hea : (#[.int .u64 ((smallR x0).1 : Nat),.string (str x2.txt),.int .u64 (l3 (slotOf r) : Nat),.int .u64 (l2 (slotOf r) : Nat),.int .u64 (l1 (slotOf r) : Nat),.int .u64 (l0 (slotOf r) : Nat),.int .i64 0] : Array Value)=askCells a:=by rw [ha]; unfold askCells; rw [← hkind,← hslot,hk8]; rfl
      replace G8:=Lib.hid (G8.out.cast hea)
      have HPa:=hP
      rw [← ha] at HPa
      have hcA:=G8.out.kb.get (.head _)
      unfold askCells at hcA
      obtain⟨⟨d0,d1,d2,d3,d4,d5,d6⟩,_⟩:=cells7 hcA
      clear hcA
      have hcI:=G8.out.kb.get (.tail _ (.head _))
      obtain⟨⟨j0,j1,j2⟩,_⟩:=cells3 hcI
      clear hcI hea ha hkind hslot hk8 hn3 hP hn1
      go_wp2_with fail
      refine (rputAsk_c HPa.out.1 _).mono ?_
      rintro e w9 ⟨rfl,hb⟩
      have G9:=Lib.hid (G8.out.call hb)
      clear hb G8 d0 d1 d2 d3 d4 d5 d6 z0 z1 z2 z3 z4 z5 z6 i0 i1 i2 j0 j1 j2 hi0 hi1 hi2
      have HN:=Lib.hid (show ¬ (a.Ok∧a.enc=s)→AskIs s none from fun hn b hw ho h=>hn (by
        have:=HPa.out.2 b hw ho h
        subst this
        exact⟨ho,h⟩))
      obtain⟨_,z0,z1,z2,z3,z4,z5,z6⟩:=cells7 (G9.out.kb.get (.tail _ (.tail _ (.head _))))
      by_cases hok : a.Ok
      ·rw [putAskV_ok hok]
       by_cases he : a.enc=s
       ·have hcmp : ((str a.enc).toList == y.toList)=true:=by rw [HT.out,he]; simp
        have HO:=Lib.hid (show AskIs s (some a) from⟨HPa.out.1,hok,he⟩)
        have hcA:=G9.out.kb.get (.head _)
        unfold askCells at hcA
        obtain⟨⟨d0,d1,d2,d3,d4,d5,d6⟩,_⟩:=cells7 hcA
        clear hcA
        have hR:=Lib.hid (set7 (G9.out.kb.get (.tail _ (.tail _ (.head _)))) (.int .u64 a.id) (.string (str a.addr)) (.int .u64 (l3 a.slot : Nat)) (.int .u64 (l2 a.slot : Nat)) (.int .u64 (l1 a.slot : Nat)) (.int .u64 (l0 a.slot : Nat)) (.int .i64 a.kind))
        have hB:=Lib.hid (Below.set7 (b:=w.heap.size) G9.out.kb.below (Nat.le_refl _) (.int .u64 a.id) (.string (str a.addr)) (.int .u64 (l3 a.slot : Nat)) (.int .u64 (l2 a.slot : Nat)) (.int .u64 (l1 a.slot : Nat)) (.int .u64 (l0 a.slot : Nat)) (.int .i64 a.kind))
        clear hok he HN G9 HT
        generalize str a.enc=z at *
        go_wp2_with fail
        exact bodyPost_ret (results_cell_slot Tryz.results57 _ _ _ _ _ _ _ _ rfl rfl hR.out Tryz.underlying128 rfl (by kernel_rfl)) rfl ⟨some a,HO.out,rfl,hB.out⟩
       ·have hcmp : ((str a.enc).toList == y.toList)=false:=by rw [HT.out]; simp [he]
        have HO:=Lib.hid (HN.out (fun h=>he h.2))
        have hR:=Lib.hid (set7 (G9.out.kb.get (.tail _ (.tail _ (.head _)))) (.int .u64 0) (.string ⟨#[]⟩) (.int .u64 0) (.int .u64 0) (.int .u64 0) (.int .u64 0) (.int .i64 0))
        have hB:=Lib.hid (Below.set7 (b:=w.heap.size) G9.out.kb.below (Nat.le_refl _) (.int .u64 0) (.string ⟨#[]⟩) (.int .u64 0) (.int .u64 0) (.int .u64 0) (.int .u64 0) (.int .i64 0))
        clear hok he HN G9 HT
        generalize str a.enc=z at *
        go_wp2_with fail
        exact bodyPost_ret (results_cell_slot Tryz.results57 _ _ _ _ _ _ _ _ rfl rfl hR.out Tryz.underlying128 rfl (by kernel_rfl)) rfl ⟨none,HO.out,rfl,hB.out⟩
      ·rw [putAskV_no hok]
       have HO:=Lib.hid (HN.out (fun h=>hok h.1))
       have hR:=Lib.hid (set7 (G9.out.kb.get (.tail _ (.tail _ (.head _)))) (.int .u64 0) (.string ⟨#[]⟩) (.int .u64 0) (.int .u64 0) (.int .u64 0) (.int .u64 0) (.int .i64 0))
       have hB:=Lib.hid (Below.set7 (b:=w.heap.size) G9.out.kb.below (Nat.le_refl _) (.int .u64 0) (.string ⟨#[]⟩) (.int .u64 0) (.int .u64 0) (.int .u64 0) (.int .u64 0) (.int .i64 0))
       clear hok HN G9 HT
       go_wp2_with fail
       exact bodyPost_ret (results_cell_slot Tryz.results57 _ _ _ _ _ _ _ _ rfl rfl hR.out Tryz.underlying128 rfl (by kernel_rfl)) rfl ⟨none,HO.out,rfl,hB.out⟩
  ·have HN:=Lib.hid (show AskIs s none from fun a hw ho h=>h3 (by rw [HX.out a hw ho h]; exact fo_len3))
   have hn3 : (n2:Int)<3:=by omega
   obtain⟨⟨i0,i1,i2⟩,_⟩:=cells3 (K1.out.get (.head _))
   obtain⟨_,z0,z1,z2,z3,z4,z5,z6⟩:=cells7 (K1.out.get (.tail _ (.head _)))
   have hR:=Lib.hid (set7 (K1.out.get (.tail _ (.head _))) (.int .u64 0) (.string ⟨#[]⟩) (.int .u64 0) (.int .u64 0) (.int .u64 0) (.int .u64 0) (.int .i64 0))
   have hB:=Lib.hid (Below.set7 (b:=w.heap.size) K1.out.below (Nat.le_refl _) (.int .u64 0) (.string ⟨#[]⟩) (.int .u64 0) (.int .u64 0) (.int .u64 0) (.int .u64 0) (.int .i64 0))
   clear hi HX hlen h3 K1 HT
   generalize w1.heap.size=g1 at *
   go_wp2_with fail
   exact bodyPost_ret (results_cell_slot Tryz.results57 _ _ _ _ _ _ _ _ rfl rfl hR.out Tryz.underlying128 rfl (by kernel_rfl)) rfl ⟨none,HN.out,rfl,hB.out⟩
 ·have HN:=Lib.hid (show AskIs s none from fun a hw ho h=>her (by
    rw [decV_of (x:=a.it) (s:=s) h (by have:=AskP.enc_len hw ho; unfold AskP.enc at this; omega) a.dep]))
  generalize (decV s).2=er at *
  have hne : ¬ (er:Int)=0:=by omega
  obtain⟨_,z0,z1,z2,z3,z4,z5,z6⟩:=cells7 (K1.out.get (.tail _ (.head _)))
  have hR:=Lib.hid (set7 (K1.out.get (.tail _ (.head _))) (.int .u64 0) (.string ⟨#[]⟩) (.int .u64 0) (.int .u64 0) (.int .u64 0) (.int .u64 0) (.int .i64 0))
  have hB:=Lib.hid (Below.set7 (b:=w.heap.size) K1.out.below (Nat.le_refl _) (.int .u64 0) (.string ⟨#[]⟩) (.int .u64 0) (.int .u64 0) (.int .u64 0) (.int .u64 0) (.int .i64 0))
  clear hi K1 HT
  go_wp2_with fail
  exact bodyPost_ret (results_cell_slot Tryz.results57 _ _ _ _ _ _ _ _ rfl rfl hR.out Tryz.underlying128 rfl (by kernel_rfl)) rfl ⟨none,HN.out,rfl,hB.out⟩
end Go.Proofs.YtekoaheiapddiaaGreat
end
section
namespace Go.Proofs.YtekoaheiapddiaaGreat.Dz
open Go.ChangeShapes Go.WideShapes Go.ChangeAt Go.RowKit
theorem u8_of {n : Int} (h:(Lit.int .u8 n).wf=true) : ∃ k : Nat,n=(k:Int)∧k<256:=by
 have h' : 0≤n∧n≤255:=by simpa [Lit.wf,IntKind.min,IntKind.max,IntKind.signed,IntKind.bits] using h
 exact⟨n.toNat,by omega,by omega⟩
theorem u16_of {n : Int} (h:(Lit.int .u16 n).wf=true) : ∃ k : Nat,n=(k:Int)∧k<65536:=by
 have h' : 0≤n∧n≤65535:=by simpa [Lit.wf,IntKind.min,IntKind.max,IntKind.signed,IntKind.bits] using h
 exact⟨n.toNat,by omega,by omega⟩
theorem ownKnob_none : ownKnob Tryz.prog.godebug=none:=by kernel_rfl
end Go.Proofs.YtekoaheiapddiaaGreat.Dz
end
