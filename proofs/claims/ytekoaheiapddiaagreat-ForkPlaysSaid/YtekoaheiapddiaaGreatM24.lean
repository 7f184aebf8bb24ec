/- Merged: Vza. -/
import Derived.Test.YtekoaheiapddiaaGreatM23
import Derived.Test.YtekoaheiapddiaaGreatM21
import Derived.Deep.CutRange
section
namespace Go.Proofs.YtekoaheiapddiaaGreat
open Go.RowKit
def ofT (x:It) : Nat:=if x.txt.length≤32 then ofL x.txt else 0
theorem ofT_lt (x:It) : ofT x<W256:=by
 unfold ofT
 split
 ·rename_i h; exact ofL_lt h
 ·show 0<W256; decide
theorem ofT_word {n : Nat} (h:n<W256) : ofT (.text (wordL n))=n:=by
 show (if (wordL n).length≤32 then ofL (wordL n) else 0)=n
 rw [if_pos (by rw [wordL_len]; omega),ofL_word h]
theorem reply2_of {b : ReplyP} (hw:b.Wf) (ho:b.Ok 2) {x0 x1 : It} {r : Fo} (h:x0.fo (x1.fo r)=b.fo 2) : (⟨(smallR x0).1,0,0,[],ofT x1⟩ : ReplyP)=b:=by
 unfold ReplyP.fo at h
 rw [if_neg (by decide)] at h
 obtain⟨e0,h1⟩:=it_text h
 obtain⟨e1,h2⟩:=it_text h1
 subst e0 e1
 have hk : b.nonce=0∧b.bal=0∧b.code=[]:=by rcases ho.2 with h | h; exact absurd h.1 (by decide); exact h.2
 obtain⟨i,n,l,c,v⟩:=b
 obtain⟨rfl,rfl,rfl⟩:=hk
 rw [small_num hw.id,ofT_word hw.value]
theorem reply1_of {b : ReplyP} (hw:b.Wf) (ho:b.Ok 1) {x0 x1 x2 x3 : It} {r : Fo} (h:x0.fo (x1.fo (x2.fo (x3.fo r)))=b.fo 1) : (⟨(smallR x0).1,(smallR x1).1,ofT x2,x3.txt,0⟩ : ReplyP)=b:=by
 unfold ReplyP.fo at h
 rw [if_pos rfl] at h
 obtain⟨e0,h1⟩:=it_text h
 obtain⟨e1,h2⟩:=it_text h1
 obtain⟨e2,h3⟩:=it_text h2
 obtain⟨e3,h4⟩:=it_text h3
 subst e0 e1 e2 e3
 have hk : b.value=0:=by rcases ho.2 with h | h; exact h.2; exact absurd h.1 (by decide)
 obtain⟨i,n,l,c,v⟩:=b
 obtain rfl : v=0:=hk
 rw [small_num hw.id,small_num hw.nonce,ofT_word hw.bal]
 rfl
theorem rfo_len {kind : Int} {b : ReplyP} : 2≤(b.fo kind).len∧(kind=1→(b.fo kind).len=4):=by
 unfold ReplyP.fo
 split <;> rename_i h <;> simp [Fo.len,h]
theorem fo_two {f : Fo} (h:2≤f.len) : ∃ x0 x1 r,f=It.fo x0 (It.fo x1 r):=by
 rcases f.cases_it with rfl | ⟨x0,f1,rfl⟩
 ·simp [Fo.len] at h
 rw [fo_len] at h
 rcases f1.cases_it with rfl | ⟨x1,r,rfl⟩
 ·simp [Fo.len] at h
 exact⟨x0,x1,r,rfl⟩
theorem Ga.first {w W : World} {S : Nat→Prop} {x : It} {r : Fo} {g o : Nat} {L : List (Nat×Array Value×TypeId)} (h:Ga w S (x.fo r) g o L W) :
  (∃ b a n c,W.cell? ⟨g,o,none⟩=some (.bool b)∧W.cell? ⟨g,o+1,none⟩=some (.string (str x.txt))∧W.cell? ⟨g,o+2,none⟩=some (.slice a n c)∧ItV S x (.agg #[.bool b,.string (str x.txt),.slice a n c]) W)∧Ga w S r g (o+3) L W:=by
 obtain⟨b0,t0,a0,n0,c0,p0,p1,p2,p3,h1⟩:=At_cons h.at_
 obtain⟨b',l',e⟩:=p3.txt
 injection e with e
 simp at e
 obtain rfl:=e.2.1
 exact⟨⟨b0,_,_,_,p0,p1,p2,p3⟩,h.kb,h1,h.lt,h.sg⟩
set_option maxRecDepth 100000 in
set_option maxHeartbeats 16000000 in
theorem rgetReply_c (kind:Int) (s:List UInt8) (w:World) : Calls Tryz.prog 58 #[.int .i64 kind,.string (str s)] w fun e w'=>GetReplyR kind s w e w':=by
 have HD:=Lib.hid (fun V=>rdecode_n (s.drop 4) V)
 have K0:=Lib.hid ((Kb.start w).box #[.int .u64 0,.int .u64 0,.int .u64 0,.int .u64 0,.int .u64 0,.int .u64 0,.string ⟨#[]⟩,.int .u64 0,.int .u64 0,.int .u64 0,.int .u64 0] 131)
 have HT:=Lib.hid (str_eq · s)
 have hsl : (str s).extract 4 (str s).size=str (s.drop 4):=by rw [str_drop]
 have hsz:=str_size s
 generalize str (s.drop 4)=y2 at *
 generalize str s=y at *
 by_cases h4 : s.length<4
 ·have hs4 : (y.size : Int)<4:=by omega
  have HN:=Lib.hid (show ReplyIs kind s none from fun a _ _ h=>by have:=congrArg List.length h; rw [reply_len] at this; omega)
  clear h4 hsl hsz K0 HD HT
  go_enter Tryz.func58,Tryz.ntmps58
  go_wp2_with fail
  exact bodyPost_ret (results_cell_slot Tryz.results58 _ _ _ _ _ _ _ _ rfl rfl (heap_alloc_new _ _) Tryz.underlying131 rfl (by kernel_rfl)) rfl ⟨none,HN.out,rfl,(Below.refl _ _).alloc (Nat.le_refl _) _⟩
 have hs4 : ¬ (y.size : Int)<4:=by omega
 have hs5 : (4:Int)≤(y.size : Int):=by omega
 clear hsz
 go_enter Tryz.func58,Tryz.ntmps58
 go_wp2_with fail
 refine (HD.out _).mono ?_
 rintro e w1 ⟨v,rfl,hv,hb⟩
 obtain⟨b2,t2,u2,rfl,hi⟩:=SlF_inner hv
 obtain⟨a2,n2,c2,rfl⟩:=hi.form
 have K1:=Lib.hid ((K0.out.call hb).box #[.bool b2,.string t2,.slice a2 n2 c2] 125)
 have hs1:=hb.size
 clear hv hb HD K0 hsl hs4 hs5
 simp only [alloc_size] at hs1 hi
 by_cases her : (decV (s.drop 4)).2=0
 ·have HX:=Lib.hid (fun (a:ReplyP) (hw:a.Wf) (ho:a.Ok kind) (h:a.enc kind=s)=>show (decV (s.drop 4)).1.inner=a.fo kind from by
    have:=decV_of (x:=a.it kind) (s:=s.drop 4) (by rw [← h]; exact ReplyP.body_of.symm) (by have:=ReplyP.body_len hw ho; unfold ReplyP.body at this; omega) (a.dep kind)
    rw [this]; rfl)
  rw [her]
  clear her
  generalize (decV (s.drop 4)).1.inner=f at *
  have hlen : n2=f.len:=by
   rcases hi with ⟨h1,h2⟩ | ⟨g,o,c,h1,_⟩
   ·injection h1 with _ h1; rw [h1,h2]; rfl
   ·injection h1 with _ h1
  by_cases h3 : 2≤f.len
  ·obtain⟨x0,x1,r,rfl⟩:=fo_two h3
   have hn3 : ¬ (n2:Int)<2:=by omega
   obtain⟨g,o,rfl,hgs,hat⟩ : ∃ g o,a2=some ⟨g,o,none⟩∧(w.heap.size+1≤g∧g<w1.heap.size)∧(x0.fo (x1.fo r)).At (fun k=>w.heap.size+1≤k∧k<w1.heap.size) g o w1:=by
    rcases hi with ⟨_,h2⟩ | ⟨g,o,c,h1,h2,h4,h5⟩
    ·cases x0 <;> simp [It.fo] at h2
    ·injection h1 with h1; exact⟨g,o,h1,h2,h5⟩
   have G1:=Lib.hid (show Ga w (fun k=>w.heap.size+1≤k∧k<w1.heap.size) (x0.fo (x1.fo r)) g o _ _ from⟨K1.out,Fo.At.kept (fun k hk=>Below.heap_alloc w1 _ k hk.2) _ g o hgs hat,fun k hk=>Nat.lt_of_lt_of_le hk.2 (by simp),hgs⟩)
   have hrl : n2=r.len+2:=by rw [hlen,fo_len,fo_len]
   have HR:=Lib.hid hrl
   have hi0 : (0:Int)<(n2:Int):=by omega
   have hi1 : (1:Int)<(n2:Int):=by omega
   clear hi hat hlen h3 K1 hrl
   obtain⟨⟨i0,i1,i2⟩,_⟩:=cells3 (G1.out.kb.get (.head _))
   have HW:=Lib.hid (show w.heap.size+1<w1.heap.size from by have:=hgs; omega)
   have HL:=Lib.hid (show (∀ k,(w.heap.size+1≤k∧k<w1.heap.size)→k≠w1.heap.size+1)∧(∀ p∈([(w1.heap.size,#[.bool b2,.string t2,.slice (some ⟨g,o,none⟩) n2 c2],125),(w.heap.size,#[.int .u64 0,.int .u64 0,.int .u64 0,.int .u64 0,.int .u64 0,.int .u64 0,.string ⟨#[]⟩,.int .u64 0,.int .u64 0,.int .u64 0,.int .u64 0],131)] : List (Nat×Array Value×TypeId)),p.1≠w1.heap.size+1)∧w.heap.size≤w1.heap.size+1 from
     ⟨fun k hk=>by omega,fun p hp=>by
       have:=HW.out
       simp only [List.mem_cons,List.not_mem_nil,or_false] at hp
       rcases hp with rfl | rfl <;> simp only <;> omega,by have:=HW.out; omega⟩)
   have G2:=Lib.hid (G1.out.box #[.int .u64 0,.int .u64 0,.int .u64 0,.int .u64 0,.int .u64 0,.int .u64 0,.string ⟨#[]⟩,.int .u64 0,.int .u64 0,.int .u64 0,.int .u64 0] 131)
   simp only [alloc_size] at G2
   obtain⟨⟨xb0,a0,m0,k0,q0,q1,q2,q3⟩,_⟩:=G2.out.first
   have HQ:=Lib.hid q3
   clear q3 G1 hgs
   go_wp2_with fail
   generalize w1.heap.size=g1 at *
   refine (rsmall_it _ _ _ _ HQ.out).mono ?_
   rintro e w3 ⟨rfl,hb⟩
   have G3:=Lib.hid (G2.out.call hb)
   clear hb G2 HQ i0 i1 i2 q0 q1 q2
   obtain⟨hcl,z0,z1,z2,z3,z4,z5,z6,z7,z8,z9,z10⟩:=cells11 (G3.out.kb.get (.head _))
   have G4:=Lib.hid (G3.out.set HL.out.2.2 HL.out.1 HL.out.2.1 0 (.int .u64 ((smallR x0).1 : Nat)) (cs':=#[.int .u64 ((smallR x0).1 : Nat),.int .u64 0,.int .u64 0,.int .u64 0,.int .u64 0,.int .u64 0,.string ⟨#[]⟩,.int .u64 0,.int .u64 0,.int .u64 0,.int .u64 0]) rfl)
   clear G3
   obtain⟨⟨i0,i1,i2⟩,_⟩:=cells3 (G4.out.kb.get (.tail _ (.head _)))
   by_cases h2 : kind=2
   ·subst h2
    have HC:=Lib.hid (fun V=>rOf_c x1.txt V)
    rw [show (if x1.txt.length≤32 then ofL x1.txt else 0)=ofT x1 from rfl] at HC
    obtain⟨_,GN⟩:=G4.out.first
    obtain⟨⟨xb1,a1,m1,k1,q0,q1,q2,_⟩,_⟩:=GN.first
    clear GN
    go_wp2_with fail
    refine (HC.out _).mono ?_
    rintro e w5 ⟨rfl,hb⟩
    have G5:=Lib.hid (G4.out.call hb)
    clear hb G4 HC q0 q1 q2 z0 z1 z2 z3 z4 z5 z6 z7 z8 z9 z10 i0 i1 i2 hcl
    obtain⟨hcl,z0,z1,z2,z3,z4,z5,z6,z7,z8,z9,z10⟩:=cells11 (G5.out.kb.get (.head _))
    have G6:=Lib.hid ((((G5.out.set HL.out.2.2 HL.out.1 HL.out.2.1 7 (.int .u64 (l3 (ofT x1) : Nat)) rfl).set HL.out.2.2 HL.out.1 HL.out.2.1 8 (.int .u64 (l2 (ofT x1) : Nat)) rfl).set HL.out.2.2 HL.out.1 HL.out.2.1 9 (.int .u64 (l1 (ofT x1) : Nat)) rfl).set HL.out.2.2 HL.out.1 HL.out.2.1 10 (.int .u64 (l0 (ofT x1) : Nat)) (cs':=#[.int .u64 ((smallR x0).1 : Nat),.int .u64 0,.int .u64 0,.int .u64 0,.int .u64 0,.int .u64 0,.string ⟨#[]⟩,.int .u64 (l3 (ofT x1) : Nat),.int .u64 (l2 (ofT x1) : Nat),.int .u64 (l1 (ofT x1) : Nat),.int .u64 (l0 (ofT x1) : Nat)]) rfl)
    clear G5
    unfold wordV
    obtain⟨a,ha⟩ : ∃ a : ReplyP,a=⟨(smallR x0).1,0,0,[],ofT x1⟩:=⟨_,rfl⟩
    have hea : (#[.int .u64 ((smallR x0).1 : Nat),.int .u64 0,.int .u64 0,.int .u64 0,.int .u64 0,.int .u64 0,.string ⟨#[]⟩,.int .u64 (l3 (ofT x1) : Nat),.int .u64 (l2 (ofT x1) : Nat),.int .u64 (l1 (ofT x1) : Nat),.int .u64 (l0 (ofT x1) : Nat)] : Array Value)=replyCells a:=by rw [ha]; unfold replyCells; simp [lim_zero]; try rfl
    have G8:=Lib.hid (G6.out.cast hea)
    have HPa:=Lib.hid (show a.Wf∧(∀ b : ReplyP,b.Wf→b.Ok 2→b.enc 2=s→a=b) from by rw [ha]; exact⟨⟨small_lt _,by show 0<M64; decide,by show 0<W256; decide,ofT_lt _⟩,fun b hw ho h=>reply2_of hw ho (HX.out b hw ho h)⟩)
    have hcA:=G8.out.kb.get (.head _)
    unfold replyCells at hcA
    obtain⟨⟨d0,d1,d2,d3,d4,d5,d6,d7,d8,d9,d10⟩,_⟩:=cells11 hcA
    clear hcA
    obtain⟨⟨j0,j1,j2⟩,_⟩:=cells3 (G8.out.kb.get (.tail _ (.head _)))
    clear hea ha G6
    go_wp2_with fail
    refine (rputReply_c 2 HPa.out.1 _).mono ?_
    rintro e w9 ⟨rfl,hb⟩
    have G9:=Lib.hid (G8.out.call hb)
    clear hb G8 d0 d1 d2 d3 d4 d5 d6 d7 d8 d9 d10 j0 j1 j2 hcl
    have HN:=Lib.hid (show ¬ (a.Ok 2∧a.enc 2=s)→ReplyIs 2 s none from fun hn b hw ho h=>hn (by
      have:=HPa.out.2 b hw ho h
      subst this
      exact⟨ho,h⟩))
    obtain⟨_,z0,z1,z2,z3,z4,z5,z6,z7,z8,z9,z10⟩:=cells11 (G9.out.kb.get (.tail _ (.tail _ (.head _))))
    by_cases hok : a.Ok 2
    ·rw [putReplyV_ok hok]
     by_cases he : a.enc 2=s
     ·have hcmp : ((str (a.enc 2)).toList == y.toList)=true:=by rw [HT.out,he]; simp
      have HO:=Lib.hid (show ReplyIs 2 s (some a) from⟨HPa.out.1,hok,he⟩)
      have hcA:=G9.out.kb.get (.head _)
      unfold replyCells at hcA
      obtain⟨⟨d0,d1,d2,d3,d4,d5,d6,d7,d8,d9,d10⟩,_⟩:=cells11 hcA
      clear hcA
      have hR:=Lib.hid (set11 (G9.out.kb.get (.tail _ (.tail _ (.head _)))) (.int .u64 a.id) (.int .u64 a.nonce) (.int .u64 (l3 a.bal : Nat)) (.int .u64 (l2 a.bal : Nat)) (.int .u64 (l1 a.bal : Nat)) (.int .u64 (l0 a.bal : Nat)) (.string (str a.code)) (.int .u64 (l3 a.value : Nat)) (.int .u64 (l2 a.value : Nat)) (.int .u64 (l1 a.value : Nat)) (.int .u64 (l0 a.value : Nat)))
      have hB:=Lib.hid (Below.set11 (b:=w.heap.size) G9.out.kb.below (Nat.le_refl _) (.int .u64 a.id) (.int .u64 a.nonce) (.int .u64 (l3 a.bal : Nat)) (.int .u64 (l2 a.bal : Nat)) (.int .u64 (l1 a.bal : Nat)) (.int .u64 (l0 a.bal : Nat)) (.string (str a.code)) (.int .u64 (l3 a.value : Nat)) (.int .u64 (l2 a.value : Nat)) (.int .u64 (l1 a.value : Nat)) (.int .u64 (l0 a.value : Nat)))
      clear hok he HN G9 HT
      generalize str (a.enc 2)=z at *
      go_wp2_with fail
      exact bodyPost_ret (results_cell_slot Tryz.results58 _ _ _ _ _ _ _ _ rfl rfl hR.out Tryz.underlying131 rfl (by kernel_rfl)) rfl ⟨some a,HO.out,rfl,hB.out⟩
     ·have hcmp : ((str (a.enc 2)).toList == y.toList)=false:=by rw [HT.out]; simp [he]
      have HO:=Lib.hid (HN.out (fun h=>he h.2))
      have hR:=Lib.hid (set11 (G9.out.kb.get (.tail _ (.tail _ (.head _)))) (.int .u64 0) (.int .u64 0) (.int .u64 0) (.int .u64 0) (.int .u64 0) (.int .u64 0) (.string ⟨#[]⟩) (.int .u64 0) (.int .u64 0) (.int .u64 0) (.int .u64 0))
      have hB:=Lib.hid (Below.set11 (b:=w.heap.size) G9.out.kb.below (Nat.le_refl _) (.int .u64 0) (.int .u64 0) (.int .u64 0) (.int .u64 0) (.int .u64 0) (.int .u64 0) (.string ⟨#[]⟩) (.int .u64 0) (.int .u64 0) (.int .u64 0) (.int .u64 0))
      clear hok he HN G9 HT
      generalize str (a.enc 2)=z at *
      go_wp2_with fail
      exact bodyPost_ret (results_cell_slot Tryz.results58 _ _ _ _ _ _ _ _ rfl rfl hR.out Tryz.underlying131 rfl (by kernel_rfl)) rfl ⟨none,HO.out,rfl,hB.out⟩
    ·rw [putReplyV_no hok]
     have HO:=Lib.hid (HN.out (fun h=>hok h.1))
     have hR:=Lib.hid (set11 (G9.out.kb.get (.tail _ (.tail _ (.head _)))) (.int .u64 0) (.int .u64 0) (.int .u64 0) (.int .u64 0) (.int .u64 0) (.int .u64 0) (.string ⟨#[]⟩) (.int .u64 0) (.int .u64 0) (.int .u64 0) (.int .u64 0))
     have hB:=Lib.hid (Below.set11 (b:=w.heap.size) G9.out.kb.below (Nat.le_refl _) (.int .u64 0) (.int .u64 0) (.int .u64 0) (.int .u64 0) (.int .u64 0) (.int .u64 0) (.string ⟨#[]⟩) (.int .u64 0) (.int .u64 0) (.int .u64 0) (.int .u64 0))
     clear hok HN G9 HT
     go_wp2_with fail
     exact bodyPost_ret (results_cell_slot Tryz.results58 _ _ _ _ _ _ _ _ rfl rfl hR.out Tryz.underlying131 rfl (by kernel_rfl)) rfl ⟨none,HO.out,rfl,hB.out⟩
   ·by_cases h1 : kind=1
    ·subst h1
     by_cases hr4 : 2≤r.len
     ·obtain⟨x2,x3,r',rfl⟩:=fo_two hr4
      have hn4 : (3:Int)<(n2:Int):=by have:=HR.out; omega
      have hi2 : (2:Int)<(n2:Int):=by omega
      obtain⟨_,GN⟩:=G4.out.first
      obtain⟨⟨xb1,a1,m1,k1,q0,q1,q2,q3⟩,_⟩:=GN.first
      have HQ:=Lib.hid q3
      clear GN q3
      go_wp2_with fail
      refine (rsmall_it _ _ _ _ HQ.out).mono ?_
      rintro e w5 ⟨rfl,hb⟩
      have G5:=Lib.hid (G4.out.call hb)
      clear hb G4 HQ q0 q1 q2 z0 z1 z2 z3 z4 z5 z6 z7 z8 z9 z10 i0 i1 i2 hcl
      obtain⟨hcl,z0,z1,z2,z3,z4,z5,z6,z7,z8,z9,z10⟩:=cells11 (G5.out.kb.get (.head _))
      have G6:=Lib.hid (G5.out.set HL.out.2.2 HL.out.1 HL.out.2.1 1 (.int .u64 ((smallR x1).1 : Nat)) (cs':=#[.int .u64 ((smallR x0).1 : Nat),.int .u64 ((smallR x1).1 : Nat),.int .u64 0,.int .u64 0,.int .u64 0,.int .u64 0,.string ⟨#[]⟩,.int .u64 0,.int .u64 0,.int .u64 0,.int .u64 0]) rfl)
      clear G5
      obtain⟨⟨i0,i1,i2⟩,_⟩:=cells3 (G6.out.kb.get (.tail _ (.head _)))
      have HC:=Lib.hid (fun V=>rOf_c x2.txt V)
      rw [show (if x2.txt.length≤32 then ofL x2.txt else 0)=ofT x2 from rfl] at HC
      obtain⟨_,GN⟩:=G6.out.first
      obtain⟨_,GN⟩:=GN.first
      obtain⟨⟨xb2,a2,m2,k2,q0,q1,q2,_⟩,_⟩:=GN.first
      clear GN
      simp only [Nat.add_assoc,Nat.reduceAdd] at q0 q1 q2
      go_wp2_with fail
      refine (HC.out _).mono ?_
      rintro e w7 ⟨rfl,hb⟩
      have G7:=Lib.hid (G6.out.call hb)
      clear hb G6 HC q0 q1 q2 z0 z1 z2 z3 z4 z5 z6 z7 z8 z9 z10 i0 i1 i2 hcl
      obtain⟨hcl,z0,z1,z2,z3,z4,z5,z6,z7,z8,z9,z10⟩:=cells11 (G7.out.kb.get (.head _))
      have G7a:=Lib.hid ((((G7.out.set HL.out.2.2 HL.out.1 HL.out.2.1 2 (.int .u64 (l3 (ofT x2) : Nat)) rfl).set HL.out.2.2 HL.out.1 HL.out.2.1 3 (.int .u64 (l2 (ofT x2) : Nat)) rfl).set HL.out.2.2 HL.out.1 HL.out.2.1 4 (.int .u64 (l1 (ofT x2) : Nat)) rfl).set HL.out.2.2 HL.out.1 HL.out.2.1 5 (.int .u64 (l0 (ofT x2) : Nat)) (cs':=#[.int .u64 ((smallR x0).1 : Nat),.int .u64 ((smallR x1).1 : Nat),.int .u64 (l3 (ofT x2) : Nat),.int .u64 (l2 (ofT x2) : Nat),.int .u64 (l1 (ofT x2) : Nat),.int .u64 (l0 (ofT x2) : Nat),.string ⟨#[]⟩,.int .u64 0,.int .u64 0,.int .u64 0,.int .u64 0]) rfl)
      clear G7
      obtain⟨⟨i0,i1,i2⟩,_⟩:=cells3 (G7a.out.kb.get (.tail _ (.head _)))
      obtain⟨hcl2,y0,y1,y2',y3,y4,y5,y6,y7,y8,y9,y10⟩:=cells11 (G7a.out.kb.get (.head _))
      obtain⟨_,GN⟩:=G7a.out.first
      obtain⟨_,GN⟩:=GN.first
      obtain⟨_,GN⟩:=GN.first
      obtain⟨⟨xb3,a3,m3,k3,q0,q1,q2,_⟩,_⟩:=GN.first
      clear GN
      simp only [Nat.add_assoc,Nat.reduceAdd] at q0 q1 q2
      have hi3 : (3:Int)<(n2:Int):=hn4
      have G6:=Lib.hid (G7a.out.set HL.out.2.2 HL.out.1 HL.out.2.1 6 (.string (str x3.txt)) (cs':=#[.int .u64 ((smallR x0).1 : Nat),.int .u64 ((smallR x1).1 : Nat),.int .u64 (l3 (ofT x2) : Nat),.int .u64 (l2 (ofT x2) : Nat),.int .u64 (l1 (ofT x2) : Nat),.int .u64 (l0 (ofT x2) : Nat),.string (str x3.txt),.int .u64 0,.int .u64 0,.int .u64 0,.int .u64 0]) rfl)
      clear G7a
      unfold wordV
      obtain⟨a,ha⟩ : ∃ a : ReplyP,a=⟨(smallR x0).1,(smallR x1).1,ofT x2,x3.txt,0⟩:=⟨_,rfl⟩
      have hea : (#[.int .u64 ((smallR x0).1 : Nat),.int .u64 ((smallR x1).1 : Nat),.int .u64 (l3 (ofT x2) : Nat),.int .u64 (l2 (ofT x2) : Nat),.int .u64 (l1 (ofT x2) : Nat),.int .u64 (l0 (ofT x2) : Nat),.string (str x3.txt),.int .u64 0,.int .u64 0,.int .u64 0,.int .u64 0] : Array Value)=replyCells a:=by rw [ha]; unfold replyCells; simp [lim_zero]; try rfl
      have G8:=Lib.hid (G6.out.cast hea)
      have HPa:=Lib.hid (show a.Wf∧(∀ b : ReplyP,b.Wf→b.Ok 1→b.enc 1=s→a=b) from by rw [ha]; exact⟨⟨small_lt _,small_lt _,ofT_lt _,by show 0<W256; decide⟩,fun b hw ho h=>reply1_of hw ho (HX.out b hw ho h)⟩)
      have hcA:=G8.out.kb.get (.head _)
      unfold replyCells at hcA
      obtain⟨⟨d0,d1,d2,d3,d4,d5,d6,d7,d8,d9,d10⟩,_⟩:=cells11 hcA
      clear hcA
      obtain⟨⟨j0,j1,j2⟩,_⟩:=cells3 (G8.out.kb.get (.tail _ (.head _)))
      clear hea ha G6
      go_wp2_with fail
      refine (rputReply_c 1 HPa.out.1 _).mono ?_
      rintro e w9 ⟨rfl,hb⟩
      have G9:=Lib.hid (G8.out.call hb)
      clear hb G8 d0 d1 d2 d3 d4 d5 d6 d7 d8 d9 d10 j0 j1 j2 hcl
      have HN:=Lib.hid (show ¬ (a.Ok 1∧a.enc 1=s)→ReplyIs 1 s none from fun hn b hw ho h=>hn (by
        have:=HPa.out.2 b hw ho h
        subst this
        exact⟨ho,h⟩))
      obtain⟨_,z0,z1,z2,z3,z4,z5,z6,z7,z8,z9,z10⟩:=cells11 (G9.out.kb.get (.tail _ (.tail _ (.head _))))
      by_cases hok : a.Ok 1
      ·rw [putReplyV_ok hok]
       by_cases he : a.enc 1=s
       ·have hcmp : ((str (a.enc 1)).toList == y.toList)=true:=by rw [HT.out,he]; simp
        have HO:=Lib.hid (show ReplyIs 1 s (some a) from⟨HPa.out.1,hok,he⟩)
        have hcA:=G9.out.kb.get (.head _)
        unfold replyCells at hcA
        obtain⟨⟨d0,d1,d2,d3,d4,d5,d6,d7,d8,d9,d10⟩,_⟩:=cells11 hcA
        clear hcA
        have hR:=Lib.hid (set11 (G9.out.kb.get (.tail _ (.tail _ (.head _)))) (.int .u64 a.id) (.int .u64 a.nonce) (.int .u64 (l3 a.bal : Nat)) (.int .u64 (l2 a.bal : Nat)) (.int .u64 (l1 a.bal : Nat)) (.int .u64 (l0 a.bal : Nat)) (.string (str a.code)) (.int .u64 (l3 a.value : Nat)) (.int .u64 (l2 a.value : Nat)) (.int .u64 (l1 a.value : Nat)) (.int .u64 (l0 a.value : Nat)))
        have hB:=Lib.hid (Below.set11 (b:=w.heap.size) G9.out.kb.below (Nat.le_refl _) (.int .u64 a.id) (.int .u64 a.nonce) (.int .u64 (l3 a.bal : Nat)) (.int .u64 (l2 a.bal : Nat)) (.int .u64 (l1 a.bal : Nat)) (.int .u64 (l0 a.bal : Nat)) (.string (str a.code)) (.int .u64 (l3 a.value : Nat)) (.int .u64 (l2 a.value : Nat)) (.int .u64 (l1 a.value : Nat)) (.int .u64 (l0 a.value : Nat)))
        clear hok he HN G9 HT
        generalize str (a.enc 1)=z at *
        go_wp2_with fail
        exact bodyPost_ret (results_cell_slot Tryz.results58 _ _ _ _ _ _ _ _ rfl rfl hR.out Tryz.underlying131 rfl (by kernel_rfl)) rfl ⟨some a,HO.out,rfl,hB.out⟩
       ·have hcmp : ((str (a.enc 1)).toList == y.toList)=false:=by rw [HT.out]; simp [he]
        have HO:=Lib.hid (HN.out (fun h=>he h.2))
        have hR:=Lib.hid (set11 (G9.out.kb.get (.tail _ (.tail _ (.head _)))) (.int .u64 0) (.int .u64 0) (.int .u64 0) (.int .u64 0) (.int .u64 0) (.int .u64 0) (.string ⟨#[]⟩) (.int .u64 0) (.int .u64 0) (.int .u64 0) (.int .u64 0))
        have hB:=Lib.hid (Below.set11 (b:=w.heap.size) G9.out.kb.below (Nat.le_refl _) (.int .u64 0) (.int .u64 0) (.int .u64 0) (.int .u64 0) (.int .u64 0) (.int .u64 0) (.string ⟨#[]⟩) (.int .u64 0) (.int .u64 0) (.int .u64 0) (.int .u64 0))
        clear hok he HN G9 HT
        generalize str (a.enc 1)=z at *
        go_wp2_with fail
        exact bodyPost_ret (results_cell_slot Tryz.results58 _ _ _ _ _ _ _ _ rfl rfl hR.out Tryz.underlying131 rfl (by kernel_rfl)) rfl ⟨none,HO.out,rfl,hB.out⟩
      ·rw [putReplyV_no hok]
       have HO:=Lib.hid (HN.out (fun h=>hok h.1))
       have hR:=Lib.hid (set11 (G9.out.kb.get (.tail _ (.tail _ (.head _)))) (.int .u64 0) (.int .u64 0) (.int .u64 0) (.int .u64 0) (.int .u64 0) (.int .u64 0) (.string ⟨#[]⟩) (.int .u64 0) (.int .u64 0) (.int .u64 0) (.int .u64 0))
       have hB:=Lib.hid (Below.set11 (b:=w.heap.size) G9.out.kb.below (Nat.le_refl _) (.int .u64 0) (.int .u64 0) (.int .u64 0) (.int .u64 0) (.int .u64 0) (.int .u64 0) (.string ⟨#[]⟩) (.int .u64 0) (.int .u64 0) (.int .u64 0) (.int .u64 0))
       clear hok HN G9 HT
       go_wp2_with fail
       exact bodyPost_ret (results_cell_slot Tryz.results58 _ _ _ _ _ _ _ _ rfl rfl hR.out Tryz.underlying131 rfl (by kernel_rfl)) rfl ⟨none,HO.out,rfl,hB.out⟩
     ·have hn4 : ¬ (3:Int)<(n2:Int):=by have:=HR.out; omega
      obtain⟨a,ha⟩ : ∃ a : ReplyP,a=⟨(smallR x0).1,0,0,[],0⟩:=⟨_,rfl⟩
      have hea : (#[.int .u64 ((smallR x0).1 : Nat),.int .u64 0,.int .u64 0,.int .u64 0,.int .u64 0,.int .u64 0,.string ⟨#[]⟩,.int .u64 0,.int .u64 0,.int .u64 0,.int .u64 0] : Array Value)=replyCells a:=by rw [ha]; unfold replyCells; simp [lim_zero]; try rfl
      have G8:=Lib.hid (G4.out.cast hea)
      have HPa := Lib.hid (show a.Wf ∧ (∀ b : ReplyP, b.Wf → b.Ok 1 → b.enc 1 = s → a = b) from by rw [ha]; exact ⟨⟨small_lt _, by show 0 < M64; decide, by show 0 < W256; decide, by show 0 < W256; decide⟩, fun b hw ho h => by
                    have e := congrArg Fo.len (HX.out b hw ho h)
                    rw [rfo_len.2 rfl, fo_len, fo_len] at e
                    omega⟩)
      have hcA:=G8.out.kb.get (.head _)
      unfold replyCells at hcA
      obtain⟨⟨d0,d1,d2,d3,d4,d5,d6,d7,d8,d9,d10⟩,_⟩:=cells11 hcA
      clear hcA
      obtain⟨⟨j0,j1,j2⟩,_⟩:=cells3 (G8.out.kb.get (.tail _ (.head _)))
      clear hea ha G4
      go_wp2_with fail
      refine (rputReply_c 1 HPa.out.1 _).mono ?_
      rintro e w9 ⟨rfl,hb⟩
      have G9:=Lib.hid (G8.out.call hb)
      clear hb G8 d0 d1 d2 d3 d4 d5 d6 d7 d8 d9 d10 j0 j1 j2 hcl
      have HN:=Lib.hid (show ¬ (a.Ok 1∧a.enc 1=s)→ReplyIs 1 s none from fun hn b hw ho h=>hn (by
        have:=HPa.out.2 b hw ho h
        subst this
        exact⟨ho,h⟩))
      obtain⟨_,z0,z1,z2,z3,z4,z5,z6,z7,z8,z9,z10⟩:=cells11 (G9.out.kb.get (.tail _ (.tail _ (.head _))))
      by_cases hok : a.Ok 1
      ·rw [putReplyV_ok hok]
       by_cases he : a.enc 1=s
       ·have hcmp : ((str (a.enc 1)).toList == y.toList)=true:=by rw [HT.out,he]; simp
        have HO:=Lib.hid (show ReplyIs 1 s (some a) from⟨HPa.out.1,hok,he⟩)
        have hcA:=G9.out.kb.get (.head _)
        unfold replyCells at hcA
        obtain⟨⟨d0,d1,d2,d3,d4,d5,d6,d7,d8,d9,d10⟩,_⟩:=cells11 hcA
        clear hcA
        have hR:=Lib.hid (set11 (G9.out.kb.get (.tail _ (.tail _ (.head _)))) (.int .u64 a.id) (.int .u64 a.nonce) (.int .u64 (l3 a.bal : Nat)) (.int .u64 (l2 a.bal : Nat)) (.int .u64 (l1 a.bal : Nat)) (.int .u64 (l0 a.bal : Nat)) (.string (str a.code)) (.int .u64 (l3 a.value : Nat)) (.int .u64 (l2 a.value : Nat)) (.int .u64 (l1 a.value : Nat)) (.int .u64 (l0 a.value : Nat)))
        have hB:=Lib.hid (Below.set11 (b:=w.heap.size) G9.out.kb.below (Nat.le_refl _) (.int .u64 a.id) (.int .u64 a.nonce) (.int .u64 (l3 a.bal : Nat)) (.int .u64 (l2 a.bal : Nat)) (.int .u64 (l1 a.bal : Nat)) (.int .u64 (l0 a.bal : Nat)) (.string (str a.code)) (.int .u64 (l3 a.value : Nat)) (.int .u64 (l2 a.value : Nat)) (.int .u64 (l1 a.value : Nat)) (.int .u64 (l0 a.value : Nat)))
        clear hok he HN G9 HT
        generalize str (a.enc 1)=z at *
        go_wp2_with fail
        exact bodyPost_ret (results_cell_slot Tryz.results58 _ _ _ _ _ _ _ _ rfl rfl hR.out Tryz.underlying131 rfl (by kernel_rfl)) rfl ⟨some a,HO.out,rfl,hB.out⟩
       ·have hcmp : ((str (a.enc 1)).toList == y.toList)=false:=by rw [HT.out]; simp [he]
        have HO:=Lib.hid (HN.out (fun h=>he h.2))
        have hR:=Lib.hid (set11 (G9.out.kb.get (.tail _ (.tail _ (.head _)))) (.int .u64 0) (.int .u64 0) (.int .u64 0) (.int .u64 0) (.int .u64 0) (.int .u64 0) (.string ⟨#[]⟩) (.int .u64 0) (.int .u64 0) (.int .u64 0) (.int .u64 0))
        have hB:=Lib.hid (Below.set11 (b:=w.heap.size) G9.out.kb.below (Nat.le_refl _) (.int .u64 0) (.int .u64 0) (.int .u64 0) (.int .u64 0) (.int .u64 0) (.int .u64 0) (.string ⟨#[]⟩) (.int .u64 0) (.int .u64 0) (.int .u64 0) (.int .u64 0))
        clear hok he HN G9 HT
        generalize str (a.enc 1)=z at *
        go_wp2_with fail
        exact bodyPost_ret (results_cell_slot Tryz.results58 _ _ _ _ _ _ _ _ rfl rfl hR.out Tryz.underlying131 rfl (by kernel_rfl)) rfl ⟨none,HO.out,rfl,hB.out⟩
      ·rw [putReplyV_no hok]
       have HO:=Lib.hid (HN.out (fun h=>hok h.1))
       have hR:=Lib.hid (set11 (G9.out.kb.get (.tail _ (.tail _ (.head _)))) (.int .u64 0) (.int .u64 0) (.int .u64 0) (.int .u64 0) (.int .u64 0) (.int .u64 0) (.string ⟨#[]⟩) (.int .u64 0) (.int .u64 0) (.int .u64 0) (.int .u64 0))
       have hB:=Lib.hid (Below.set11 (b:=w.heap.size) G9.out.kb.below (Nat.le_refl _) (.int .u64 0) (.int .u64 0) (.int .u64 0) (.int .u64 0) (.int .u64 0) (.int .u64 0) (.string ⟨#[]⟩) (.int .u64 0) (.int .u64 0) (.int .u64 0) (.int .u64 0))
       clear hok HN G9 HT
       go_wp2_with fail
       exact bodyPost_ret (results_cell_slot Tryz.results58 _ _ _ _ _ _ _ _ rfl rfl hR.out Tryz.underlying131 rfl (by kernel_rfl)) rfl ⟨none,HO.out,rfl,hB.out⟩
    ·have hb1 : (kind == 1)=false:=by simp [h1]
     have hb2 : (kind == 2)=false:=by simp [h2]
     obtain⟨a,ha⟩ : ∃ a : ReplyP,a=⟨(smallR x0).1,0,0,[],0⟩:=⟨_,rfl⟩
     have hea : (#[.int .u64 ((smallR x0).1 : Nat),.int .u64 0,.int .u64 0,.int .u64 0,.int .u64 0,.int .u64 0,.string ⟨#[]⟩,.int .u64 0,.int .u64 0,.int .u64 0,.int .u64 0] : Array Value)=replyCells a:=by rw [ha]; unfold replyCells; simp [lim_zero]; try rfl
     have G8:=Lib.hid (G4.out.cast hea)
     have HPa := Lib.hid (show a.Wf ∧ (∀ b : ReplyP, b.Wf → b.Ok kind → b.enc kind = s → a = b) from by rw [ha]; exact ⟨⟨small_lt _, by show 0 < M64; decide, by show 0 < W256; decide, by show 0 < W256; decide⟩, fun b hw ho h => by
                 rcases ho.2 with h | h
                 · exact absurd h.1 h1
                 · exact absurd h.1 h2⟩)
     have hcA:=G8.out.kb.get (.head _)
     unfold replyCells at hcA
     obtain⟨⟨d0,d1,d2,d3,d4,d5,d6,d7,d8,d9,d10⟩,_⟩:=cells11 hcA
     clear hcA
     obtain⟨⟨j0,j1,j2⟩,_⟩:=cells3 (G8.out.kb.get (.tail _ (.head _)))
     clear hea ha G4
     go_wp2_with fail
     refine (rputReply_c kind HPa.out.1 _).mono ?_
     rintro e w9 ⟨rfl,hb⟩
     have G9:=Lib.hid (G8.out.call hb)
     clear hb G8 d0 d1 d2 d3 d4 d5 d6 d7 d8 d9 d10 j0 j1 j2 hcl
     have HN:=Lib.hid (show ¬ (a.Ok kind∧a.enc kind=s)→ReplyIs kind s none from fun hn b hw ho h=>hn (by
       have:=HPa.out.2 b hw ho h
       subst this
       exact⟨ho,h⟩))
     obtain⟨_,z0,z1,z2,z3,z4,z5,z6,z7,z8,z9,z10⟩:=cells11 (G9.out.kb.get (.tail _ (.tail _ (.head _))))
     by_cases hok : a.Ok kind
     ·rw [putReplyV_ok hok]
      by_cases he : a.enc kind=s
      ·have hcmp : ((str (a.enc kind)).toList == y.toList)=true:=by rw [HT.out,he]; simp
       have HO:=Lib.hid (show ReplyIs kind s (some a) from⟨HPa.out.1,hok,he⟩)
       have hcA:=G9.out.kb.get (.head _)
       unfold replyCells at hcA
       obtain⟨⟨d0,d1,d2,d3,d4,d5,d6,d7,d8,d9,d10⟩,_⟩:=cells11 hcA
       clear hcA
       have hR:=Lib.hid (set11 (G9.out.kb.get (.tail _ (.tail _ (.head _)))) (.int .u64 a.id) (.int .u64 a.nonce) (.int .u64 (l3 a.bal : Nat)) (.int .u64 (l2 a.bal : Nat)) (.int .u64 (l1 a.bal : Nat)) (.int .u64 (l0 a.bal : Nat)) (.string (str a.code)) (.int .u64 (l3 a.value : Nat)) (.int .u64 (l2 a.value : Nat)) (.int .u64 (l1 a.value : Nat)) (.int .u64 (l0 a.value : Nat)))
       have hB:=Lib.hid (Below.set11 (b:=w.heap.size) G9.out.kb.below (Nat.le_refl _) (.int .u64 a.id) (.int .u64 a.nonce) (.int .u64 (l3 a.bal : Nat)) (.int .u64 (l2 a.bal : Nat)) (.int .u64 (l1 a.bal : Nat)) (.int .u64 (l0 a.bal : Nat)) (.string (str a.code)) (.int .u64 (l3 a.value : Nat)) (.int .u64 (l2 a.value : Nat)) (.int .u64 (l1 a.value : Nat)) (.int .u64 (l0 a.value : Nat)))
       clear hok he HN G9 HT
       generalize str (a.enc kind)=z at *
       go_wp2_with fail
       exact bodyPost_ret (results_cell_slot Tryz.results58 _ _ _ _ _ _ _ _ rfl rfl hR.out Tryz.underlying131 rfl (by kernel_rfl)) rfl ⟨some a,HO.out,rfl,hB.out⟩
      ·have hcmp : ((str (a.enc kind)).toList == y.toList)=false:=by rw [HT.out]; simp [he]
       have HO:=Lib.hid (HN.out (fun h=>he h.2))
       have hR:=Lib.hid (set11 (G9.out.kb.get (.tail _ (.tail _ (.head _)))) (.int .u64 0) (.int .u64 0) (.int .u64 0) (.int .u64 0) (.int .u64 0) (.int .u64 0) (.string ⟨#[]⟩) (.int .u64 0) (.int .u64 0) (.int .u64 0) (.int .u64 0))
       have hB:=Lib.hid (Below.set11 (b:=w.heap.size) G9.out.kb.below (Nat.le_refl _) (.int .u64 0) (.int .u64 0) (.int .u64 0) (.int .u64 0) (.int .u64 0) (.int .u64 0) (.string ⟨#[]⟩) (.int .u64 0) (.int .u64 0) (.int .u64 0) (.int .u64 0))
       clear hok he HN G9 HT
       generalize str (a.enc kind)=z at *
       go_wp2_with fail
       exact bodyPost_ret (results_cell_slot Tryz.results58 _ _ _ _ _ _ _ _ rfl rfl hR.out Tryz.underlying131 rfl (by kernel_rfl)) rfl ⟨none,HO.out,rfl,hB.out⟩
     ·rw [putReplyV_no hok]
      have HO:=Lib.hid (HN.out (fun h=>hok h.1))
      have hR:=Lib.hid (set11 (G9.out.kb.get (.tail _ (.tail _ (.head _)))) (.int .u64 0) (.int .u64 0) (.int .u64 0) (.int .u64 0) (.int .u64 0) (.int .u64 0) (.string ⟨#[]⟩) (.int .u64 0) (.int .u64 0) (.int .u64 0) (.int .u64 0))
      have hB:=Lib.hid (Below.set11 (b:=w.heap.size) G9.out.kb.below (Nat.le_refl _) (.int .u64 0) (.int .u64 0) (.int .u64 0) (.int .u64 0) (.int .u64 0) (.int .u64 0) (.string ⟨#[]⟩) (.int .u64 0) (.int .u64 0) (.int .u64 0) (.int .u64 0))
      clear hok HN G9 HT
      go_wp2_with fail
      exact bodyPost_ret (results_cell_slot Tryz.results58 _ _ _ _ _ _ _ _ rfl rfl hR.out Tryz.underlying131 rfl (by kernel_rfl)) rfl ⟨none,HO.out,rfl,hB.out⟩
  ·have HN:=Lib.hid (show ReplyIs kind s none from fun a hw ho h=>h3 (by rw [HX.out a hw ho h]; exact rfo_len.1))
   have hn3 : (n2:Int)<2:=by omega
   obtain⟨⟨i0,i1,i2⟩,_⟩:=cells3 (K1.out.get (.head _))
   obtain⟨_,z0,z1,z2,z3,z4,z5,z6,z7,z8,z9,z10⟩:=cells11 (K1.out.get (.tail _ (.head _)))
   have hR:=Lib.hid (set11 (K1.out.get (.tail _ (.head _))) (.int .u64 0) (.int .u64 0) (.int .u64 0) (.int .u64 0) (.int .u64 0) (.int .u64 0) (.string ⟨#[]⟩) (.int .u64 0) (.int .u64 0) (.int .u64 0) (.int .u64 0))
   have hB:=Lib.hid (Below.set11 (b:=w.heap.size) K1.out.below (Nat.le_refl _) (.int .u64 0) (.int .u64 0) (.int .u64 0) (.int .u64 0) (.int .u64 0) (.int .u64 0) (.string ⟨#[]⟩) (.int .u64 0) (.int .u64 0) (.int .u64 0) (.int .u64 0))
   clear hi HX hlen h3 K1 HT
   generalize w1.heap.size=g1 at *
   go_wp2_with fail
   exact bodyPost_ret (results_cell_slot Tryz.results58 _ _ _ _ _ _ _ _ rfl rfl hR.out Tryz.underlying131 rfl (by kernel_rfl)) rfl ⟨none,HN.out,rfl,hB.out⟩
 ·have HN:=Lib.hid (show ReplyIs kind s none from fun a hw ho h=>her (by
    rw [decV_of (x:=a.it kind) (s:=s.drop 4) (by rw [← h]; exact ReplyP.body_of.symm) (by have:=ReplyP.body_len hw ho; unfold ReplyP.body at this; omega) (a.dep kind)]))
  generalize (decV (s.drop 4)).2=er at *
  have hne : ¬ (er:Int)=0:=by omega
  obtain⟨_,z0,z1,z2,z3,z4,z5,z6,z7,z8,z9,z10⟩:=cells11 (K1.out.get (.tail _ (.head _)))
  have hR:=Lib.hid (set11 (K1.out.get (.tail _ (.head _))) (.int .u64 0) (.int .u64 0) (.int .u64 0) (.int .u64 0) (.int .u64 0) (.int .u64 0) (.string ⟨#[]⟩) (.int .u64 0) (.int .u64 0) (.int .u64 0) (.int .u64 0))
  have hB:=Lib.hid (Below.set11 (b:=w.heap.size) K1.out.below (Nat.le_refl _) (.int .u64 0) (.int .u64 0) (.int .u64 0) (.int .u64 0) (.int .u64 0) (.int .u64 0) (.string ⟨#[]⟩) (.int .u64 0) (.int .u64 0) (.int .u64 0) (.int .u64 0))
  clear hi K1 HT
  go_wp2_with fail
  exact bodyPost_ret (results_cell_slot Tryz.results58 _ _ _ _ _ _ _ _ rfl rfl hR.out Tryz.underlying131 rfl (by kernel_rfl)) rfl ⟨none,HN.out,rfl,hB.out⟩
end Go.Proofs.YtekoaheiapddiaaGreat
end
