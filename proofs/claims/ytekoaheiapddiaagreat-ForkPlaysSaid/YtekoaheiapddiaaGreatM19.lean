/- Merged: Vh, Vi, Lr8, Lr9. -/
import Derived.Test.YtekoaheiapddiaaGreatM18
import Derived.Test.YtekoaheiapddiaaGreatM16
section
namespace Go.Proofs.YtekoaheiapddiaaGreat
open Go.RowKit
theorem enterN (args:Array Value) (w:World) : (callFunc 187 args).run Tryz.prog w=.ok (.enter 187 args) w:=enters_of Tryz.func187 (by kernel_rfl) rfl args w
theorem enterT (args:Array Value) (w:World) : (callFunc 188 args).run Tryz.prog w=.ok (.enter 188 args) w:=enters_of Tryz.func188 (by kernel_rfl) rfl args w
theorem enterW (args:Array Value) (w:World) : (callFunc 189 args).run Tryz.prog w=.ok (.enter 189 args) w:=enters_of Tryz.func189 (by kernel_rfl) rfl args w
def fN (g:Nat) : Value:=.func (.func 187) #[.pointer (some ⟨g,0,none⟩)] #[]
def fT (g:Nat) : Value:=.func (.func 188) #[.pointer (some ⟨g,0,none⟩)] #[]
def fW (g:Nat) : Value:=.func (.func 189) #[.pointer (some ⟨g,0,none⟩)] #[]
set_option maxRecDepth 100000 in
set_option maxHeartbeats 4000000 in
theorem ask_c {S : Nat→Prop} {g : Nat} {f : Fo} {w : World} (h:Fd S g f w) (hl:f.enc.length≤70000) : Calls Tryz.prog 148 #[fN g,fT g,fW g] w fun e w'=>AskR g f w e w':=by
 have G0:=Lib.hid (Gt.start h #[.int .u64 0,.string ⟨#[]⟩,.int .u64 0,.int .u64 0,.int .u64 0,.int .u64 0,.int .i64 0] 117)
 have HL:=Lib.hid hl
 have eN:=enterN
 have eT:=enterT
 have eW:=enterW
 clear h hl
 unfold fN fT fW
 go_enter Tryz.func148,Tryz.ntmps148
 go_wp2_with fail
 refine (number_f G0.out.fd HL.out).mono ?_
 rintro e w1 ⟨ho,h1⟩
 cases e1 : numO f with
 | none=>
  rw [e1] at h1
  obtain rfl : e=.panicked boom:=h1
  exact⟨rfl,AskR.bad (G0.out.only.trans (ho.mono G0.out.only.size (fun _ _ k=>k))) rfl (fun b hw hb hf=>by rw [hf,(ask_steps hw hb).1] at e1; cases e1)⟩
 | some q=>
  obtain⟨v1,f1⟩:=q
  rw [e1] at h1
  obtain⟨rfl,hf1⟩:=h1
  obtain⟨n1,rfl,hn1,hl1⟩:=numO_some e1
  have G1:=Lib.hid (G0.out.step ho hf1)
  have HL1:=Lib.hid (show f1.enc.length≤70000 by have:=HL.out; omega)
  have E1:=Lib.hid e1
  have HN1:=Lib.hid hn1
  clear ho hf1 hl1 e1 hn1 G0
  go_wp2_with fail
  refine (number_f G1.out.fd HL1.out).mono ?_
  rintro e w2 ⟨ho,h1⟩
  cases e2 : numO f1 with
  | none=>
   rw [e2] at h1
   obtain rfl : e=.panicked boom:=h1
   exact⟨rfl,AskR.bad (G1.out.only.trans (ho.mono G1.out.only.size (fun _ _ k=>k))) rfl (fun b hw hb hf=>by
     have h:=E1.out
     rw [hf,(ask_steps hw hb).1] at h
     simp only [Option.some.injEq,Prod.mk.injEq] at h
     rw [← h.2,(ask_steps hw hb).2.1] at e2
     cases e2)⟩
  | some q=>
   obtain⟨v2,f2⟩:=q
   rw [e2] at h1
   obtain⟨rfl,hf1⟩:=h1
   obtain⟨n2,rfl,hn2,hl1⟩:=numO_some e2
   have G2:=Lib.hid (G1.out.step ho hf1)
   have HL2:=Lib.hid (show f2.enc.length≤70000 by have:=HL1.out; omega)
   have E2:=Lib.hid e2
   have HN2:=Lib.hid hn2
   clear ho hf1 hl1 e2 hn2 G1
   go_wp2_with fail
   refine (text_f G2.out.fd HL2.out).mono ?_
   rintro e w3 ⟨ho,h1⟩
   cases e3 : textO f2 with
   | none=>
    rw [e3] at h1
    obtain rfl : e=.panicked boom:=h1
    exact⟨rfl,AskR.bad (G2.out.only.trans (ho.mono G2.out.only.size (fun _ _ k=>k))) rfl (fun b hw hb hf=>by
      have h:=E1.out
      rw [hf,(ask_steps hw hb).1] at h
      simp only [Option.some.injEq,Prod.mk.injEq] at h
      have h2:=E2.out
      rw [← h.2,(ask_steps hw hb).2.1] at h2
      simp only [Option.some.injEq,Prod.mk.injEq] at h2
      rw [← h2.2,(ask_steps hw hb).2.2.1] at e3
      cases e3)⟩
   | some q=>
    obtain⟨v3,f3⟩:=q
    rw [e3] at h1
    obtain⟨rfl,hf1⟩:=h1
    obtain⟨t3,rfl,hl1⟩:=textO_some e3
    have G3:=Lib.hid (G2.out.step ho hf1)
    have HL3:=Lib.hid (show f3.enc.length≤70000 by have:=HL2.out; omega)
    have HT:=Lib.hid (fun (b:AskP) (hw:b.Wf) (hb:b.Ok) (hf:f=b.fo)=>show n1=b.id∧(n2:Int)=b.kind∧t3=b.addr∧f3=(if b.kind=2 then .text (wordL b.slot) .nil else .nil) from by
      have h:=E1.out
      rw [hf,(ask_steps hw hb).1] at h
      simp only [Option.some.injEq,Prod.mk.injEq,Value.int.injEq,true_and,Int.natCast_inj] at h
      have h2:=E2.out
      rw [← h.2,(ask_steps hw hb).2.1] at h2
      simp only [Option.some.injEq,Prod.mk.injEq,Value.int.injEq,true_and,Int.natCast_inj] at h2
      have h3:=e3
      rw [← h2.2,(ask_steps hw hb).2.2.1] at h3
      simp only [Option.some.injEq,Prod.mk.injEq,Value.string.injEq] at h3
      have hk:=hb.2
      exact⟨h.1.symm,by omega,(str_inj h3.1).symm,h3.2.symm⟩)
    have HW:=Lib.hid (And.intro HN1.out HN2.out)
    clear ho hf1 hl1 e3 G2 E1 E2 HN1 HN2
    have hz2 : (n2=1→wrap64 (n2:Int)=1)∧(n2=2→wrap64 (n2:Int)=2):=⟨fun h=>by rw [h]; unfold wrap64; omega,fun h=>by rw [h]; unfold wrap64; omega⟩
    have hzb : -9223372036854775808≤wrap64 (n2:Int)∧wrap64 (n2:Int)≤9223372036854775807:=by unfold wrap64; omega
    generalize wrap64 (n2:Int)=kz at *
    have HZ:=Lib.hid (And.intro hz2 hzb)
    clear hz2 hzb
    by_cases hk : kz=2
    ·subst hk
     have hal : Below w3.heap.size w3 (w3.alloc (.cells #[.int .u64 n1,.string (str t3),.int .u64 0,.int .u64 0,.int .u64 0,.int .u64 0,.int .i64 2] 117)):=(Below.refl _ _).alloc (Nat.le_refl _) _
     have G4:=Lib.hid (G3.out.call hal)
     have N4:=Lib.hid (heap_alloc_new w3 (.cells #[.int .u64 n1,.string (str t3),.int .u64 0,.int .u64 0,.int .u64 0,.int .u64 0,.int .i64 2] 117))
     have hgl : g<w3.heap.size:=Nat.lt_of_lt_of_le G3.out.lt G3.out.only.size
     have hbl:=lt_of G3.out.box
     have hge3:=G3.out.only.size
     clear hal
     go_wp2_with fail
     refine (word_f G4.out.fd HL3.out).mono ?_
     rintro e w4 ⟨ho,h1⟩
     cases e4 : wordO f3 with
     | none=>
      rw [e4] at h1
      obtain rfl : e=.panicked boom:=h1
      exact⟨rfl,AskR.bad (G4.out.only.trans (ho.mono G4.out.only.size (fun _ _ k=>k))) rfl (fun b hw hb hf=>by
        obtain⟨_,q2,_,q4⟩:=HT.out b hw hb hf
        have hs:=ask_steps hw hb
        have hk : b.kind=2:=by
          rcases hs.2.2.2.2.1 with h | h
          · have:=HZ.out.1.1 (by omega); omega
          · exact h
        have h5:=hs.2.2.2.1 hk
        rw [← q4,e4] at h5
        cases h5)⟩
     | some q=>
      obtain⟨v4,f4⟩:=q
      rw [e4] at h1
      obtain⟨rfl,hf1⟩:=h1
      obtain⟨n4,rfl,hn4⟩:=wordO_some e4
      have G5:=Lib.hid (G4.out.step ho hf1)
      have N5:=(ho.block w3.heap.size (by simp) (by omega)).trans N4.out
      have HE:=Lib.hid (And.intro e4 hn4)
      clear ho hf1 e4 hn4
      unfold wordV
      have k5:=G5.out.box
      obtain⟨_,z0,z1,z2,z3,z4,z5,z6⟩:=cells7 N5
      obtain⟨⟨p0,p1,p2,p3,p4,p5,p6⟩,_⟩:=cells7 N5
      have N6 : ((((w4.setCell ⟨w3.heap.size,2,none⟩ (.int .u64 (l3 n4 : Nat))).setCell ⟨w3.heap.size,3,none⟩ (.int .u64 (l2 n4 : Nat))).setCell ⟨w3.heap.size,4,none⟩ (.int .u64 (l1 n4 : Nat))).setCell ⟨w3.heap.size,5,none⟩ (.int .u64 (l0 n4 : Nat))).heap[w3.heap.size]?=some (.cells #[.int .u64 n1,.string (str t3),.int .u64 (l3 n4 : Nat),.int .u64 (l2 n4 : Nat),.int .u64 (l1 n4 : Nat),.int .u64 (l0 n4 : Nat),.int .i64 2] 117 (0,0)):=by
       have e:=heap_setCell_same _ _ 5 _ _ (.int .u64 (l0 n4 : Nat)) (heap_setCell_same _ _ 4 _ _ (.int .u64 (l1 n4 : Nat)) (heap_setCell_same _ _ 3 _ _ (.int .u64 (l2 n4 : Nat)) (heap_setCell_same _ _ 2 _ _ (.int .u64 (l3 n4 : Nat)) N5)))
       simpa using e
      have K6 : ((((w4.setCell ⟨w3.heap.size,2,none⟩ (.int .u64 (l3 n4 : Nat))).setCell ⟨w3.heap.size,3,none⟩ (.int .u64 (l2 n4 : Nat))).setCell ⟨w3.heap.size,4,none⟩ (.int .u64 (l1 n4 : Nat))).setCell ⟨w3.heap.size,5,none⟩ (.int .u64 (l0 n4 : Nat))).heap[w.heap.size]?=some (.cells #[.int .u64 0,.string ⟨#[]⟩,.int .u64 0,.int .u64 0,.int .u64 0,.int .u64 0,.int .i64 0] 117 (0,0)):=by
       rw [heap_setCell_other _ _ _ _ (by simp; omega),heap_setCell_other _ _ _ _ (by simp; omega),heap_setCell_other _ _ _ _ (by simp; omega),heap_setCell_other _ _ _ _ (by simp; omega)]
       exact k5
      have O6 : Only (fun k=>k=g) w.heap.size w ((((w4.setCell ⟨w3.heap.size,2,none⟩ (.int .u64 (l3 n4 : Nat))).setCell ⟨w3.heap.size,3,none⟩ (.int .u64 (l2 n4 : Nat))).setCell ⟨w3.heap.size,4,none⟩ (.int .u64 (l1 n4 : Nat))).setCell ⟨w3.heap.size,5,none⟩ (.int .u64 (l0 n4 : Nat))):=
       (((G5.out.only.setCell (p:=⟨w3.heap.size,2,none⟩) (Or.inl hge3) _).setCell (p:=⟨w3.heap.size,3,none⟩) (Or.inl hge3) _).setCell (p:=⟨w3.heap.size,4,none⟩) (Or.inl hge3) _).setCell (p:=⟨w3.heap.size,5,none⟩) (Or.inl hge3) _
      obtain⟨⟨a0,a1,a2,a3,a4,a5,a6⟩,_⟩:=cells7 N6
      obtain⟨⟨b0,b1,b2,b3,b4,b5,b6⟩,y0,y1,y2,y3,y4,y5,y6⟩:=cells7 K6
      have H6:=Lib.hid (And.intro K6 O6)
      clear N6 K6 O6 k5 N5 hgl hbl
      go_wp2_with fail
      refine bodyPost_ret (results_cell_row Tryz.results148 _ _ _ _ _ _ _ rfl (set7 H6.out.1 _ _ _ _ _ _ _) Tryz.underlying117 rfl (by kernel_rfl)) rfl (AskR.good ⟨n1,t3,n4,2⟩ ?_ rfl ⟨HW.out.1,HE.out.2,(show (-9223372036854775808 : Int)≤2∧(2:Int)≤9223372036854775807 by decide)⟩ ?_)
      ·exact ((((((H6.out.2.setCell (p:=⟨w.heap.size,0,none⟩) (Or.inl (Nat.le_refl _)) _).setCell (p:=⟨w.heap.size,1,none⟩) (Or.inl (Nat.le_refl _)) _).setCell (p:=⟨w.heap.size,2,none⟩) (Or.inl (Nat.le_refl _)) _).setCell (p:=⟨w.heap.size,3,none⟩) (Or.inl (Nat.le_refl _)) _).setCell (p:=⟨w.heap.size,4,none⟩) (Or.inl (Nat.le_refl _)) _).setCell (p:=⟨w.heap.size,5,none⟩) (Or.inl (Nat.le_refl _)) _).setCell (p:=⟨w.heap.size,6,none⟩) (Or.inl (Nat.le_refl _)) _
      ·intro b hw hb hf
       obtain⟨q1,q2,q3,q4⟩:=HT.out b hw hb hf
       have hs:=ask_steps hw hb
       have hk : b.kind=2:=by
        rcases hs.2.2.2.2.1 with h | h
        ·have:=HZ.out.1.1 (by omega); omega
        ·exact h
       have h5:=hs.2.2.2.1 hk
       rw [← q4,HE.out.1] at h5
       simp only [Option.some.injEq,Prod.mk.injEq] at h5
       have e4:=wordV_inj HE.out.2 hw.slot h5.1
       obtain⟨i,ad,sl,kd⟩:=b
       simp only at q1 q3 hk e4
       rw [q1,q3,hk,e4]
    ·have hkb : (kz == 2)=false:=by simp [hk]
     have kb:=(Below.heap_alloc w3 (.cells #[.int .u64 n1,.string (str t3),.int .u64 0,.int .u64 0,.int .u64 0,.int .u64 0,.int .i64 kz] 117) _ (lt_of G3.out.box)).trans G3.out.box
     obtain⟨⟨b0,b1,b2,b3,b4,b5,b6⟩,y0,y1,y2,y3,y4,y5,y6⟩:=cells7 kb
     have H6:=Lib.hid (And.intro kb (G3.out.only.alloc G3.out.only.size (.cells #[.int .u64 n1,.string (str t3),.int .u64 0,.int .u64 0,.int .u64 0,.int .u64 0,.int .i64 kz] 117)))
     clear kb
     go_wp2_with fail
     refine bodyPost_ret (results_cell_row Tryz.results148 _ _ _ _ _ _ _ rfl (set7 H6.out.1 _ _ _ _ _ _ _) Tryz.underlying117 rfl (by kernel_rfl)) rfl (AskR.good ⟨n1,t3,0,kz⟩ ?_ (by unfold askV; simp [lim_zero]) ⟨HW.out.1,(show 0<W256 by decide),HZ.out.2⟩ ?_)
     ·exact ((((((H6.out.2.setCell (p:=⟨w.heap.size,0,none⟩) (Or.inl (Nat.le_refl _)) _).setCell (p:=⟨w.heap.size,1,none⟩) (Or.inl (Nat.le_refl _)) _).setCell (p:=⟨w.heap.size,2,none⟩) (Or.inl (Nat.le_refl _)) _).setCell (p:=⟨w.heap.size,3,none⟩) (Or.inl (Nat.le_refl _)) _).setCell (p:=⟨w.heap.size,4,none⟩) (Or.inl (Nat.le_refl _)) _).setCell (p:=⟨w.heap.size,5,none⟩) (Or.inl (Nat.le_refl _)) _).setCell (p:=⟨w.heap.size,6,none⟩) (Or.inl (Nat.le_refl _)) _
     ·intro b hw hb hf
      obtain⟨q1,q2,q3,q4⟩:=HT.out b hw hb hf
      have hs:=ask_steps hw hb
      have hk1 : b.kind=1:=by
       rcases hs.2.2.2.2.1 with h | h
       ·exact h
       ·exact absurd (HZ.out.1.2 (by omega)) hk
      have hkz : kz=1:=HZ.out.1.1 (by omega)
      have h0:=hs.2.2.2.2.2 hk1
      obtain⟨i,ad,sl,kd⟩:=b
      simp only at q1 q3 hk1 h0
      rw [q1,q3,hk1,h0,hkz]
end Go.Proofs.YtekoaheiapddiaaGreat
end
section
namespace Go.Proofs.YtekoaheiapddiaaGreat
open Go.RowKit
set_option maxRecDepth 100000 in
set_option maxHeartbeats 2000000 in
theorem acatch_panicking (a b : Nat) (v0 v1 v2 v3 v4 v5 v6 v7 : Value) (u:TypeId) (pv:Value) (older:List PanicEntry) (w:World) (ha:w.heap[a]?=some (.cells #[v0,v1,v2,v3,v4,v5,v6] 117 (0,0))) (hb:w.heap[b]?=some (.cells #[v7] 4 (0,0))) (hab:a≠b) :
  CallsD Tryz.prog 185 #[.pointer (some ⟨a,0,none⟩),.pointer (some ⟨b,0,none⟩)] (.panicking ({ v:=.iface u pv,recovered:=false } :: older)) w fun e u' w'=>
   e=.returned (.tuple #[])∧u'=.panicking ({ v:=.iface u pv,recovered:=true } :: older) ∧
    w'=((((((((w.alloc (.cells #[.int .u64 0,.string ⟨#[]⟩,.int .u64 0,.int .u64 0,.int .u64 0,.int .u64 0,.int .i64 0] 117)).setCell ⟨a,0,none⟩ (.int .u64 0)).setCell ⟨a,1,none⟩ (.string ⟨#[]⟩)).setCell ⟨a,2,none⟩ (.int .u64 0)).setCell ⟨a,3,none⟩ (.int .u64 0)).setCell ⟨a,4,none⟩ (.int .u64 0)).setCell ⟨a,5,none⟩ (.int .u64 0)).setCell ⟨a,6,none⟩ (.int .i64 0)).setCell ⟨b,0,none⟩ (.bool false):=by
 have ha':=(Below.heap_alloc w (.cells #[.int .u64 0,.string ⟨#[]⟩,.int .u64 0,.int .u64 0,.int .u64 0,.int .u64 0,.int .i64 0] 117) _ (lt_of ha)).trans ha
 have hb':=(Below.heap_alloc w (.cells #[.int .u64 0,.string ⟨#[]⟩,.int .u64 0,.int .u64 0,.int .u64 0,.int .u64 0,.int .i64 0] 117) _ (lt_of hb)).trans hb
 have hn:=heap_alloc_new w (.cells #[.int .u64 0,.string ⟨#[]⟩,.int .u64 0,.int .u64 0,.int .u64 0,.int .u64 0,.int .i64 0] 117)
 obtain⟨⟨c0,c1,c2,c3,c4,c5,c6⟩,z0,z1,z2,z3,z4,z5,z6⟩:=cells7 ha'
 obtain⟨⟨d0,d1,d2,d3,d4,d5,d6⟩,_⟩:=cells7 hn
 have c7:=cell_of hb' 0
 have z7:=free_of hb' 0
 refine callsD_of_wpS Tryz.func185 rfl fun c₀ cs hu=>?_
 apply wpS_seq
 apply wpS_region
 simp [wpOpsS,go_sem,recoverD,hu,Tryz.ntmps185,Exit.thenS]
 refine wpS_cond (t:=true) (by simp [Act.eval,Array.replicate]) ?_
 simp only [if_true]
 have c7' : (w.alloc (.cells #[.int .u64 0,.string ⟨#[]⟩,.int .u64 0,.int .u64 0,.int .u64 0,.int .u64 0,.int .i64 0] 117)).cell? ⟨b,0,none⟩=some v7:=c7
 have hab' : ¬ b=a:=fun e=>hab e.symm
 clear ha hb ha' hb' hn
 first | apply wpS_seq | skip
 apply wpS_region
 simp [wpOpsS,go_sem,Exit.thenS]
 try apply wpS_region
 simp [wpOpsS,go_sem,c0,c1,c2,c3,c4,c5,c6,z0,z1,z2,z3,z4,z5,z6,d0,d1,d2,d3,d4,d5,d6,c7',z7,bodyPostS,results,Tryz.results185]
theorem acatch_idle (p q : Value) (w:World) :
  CallsD Tryz.prog 185 #[p,q] .returning w fun e u' w'=>e=.returned (.tuple #[])∧u'=.returning∧w'=w:=by
 refine callsD_of_wpS Tryz.func185 rfl fun c₀ cs hu=>?_
 apply wpS_seq
 apply wpS_region
 simp [wpOpsS,go_sem,recoverD,hu,Tryz.ntmps185,Exit.thenS]
 refine wpS_cond (t:=false) (by simp [Act.eval,Array.replicate]) ?_
 simp only [Bool.false_eq_true,if_false]
 refine wpS_of_wp (wp_skip ?_)
 cases c₀
 simp_all [bodyPostS,results,Tryz.results185]
end Go.Proofs.YtekoaheiapddiaaGreat
end
section
namespace Go.Proofs.YtekoaheiapddiaaGreat
open Go.RowKit
theorem val_app_le (a b : List UInt8) : val a≤val (a ++ b):=by
 refine snoc_ind (P:=fun b=>val a≤val (a ++ b)) (by simp) (fun l c ih=>?_) b
 rw [← List.append_assoc,val_snoc]; omega
theorem val_take_le (r:List UInt8) {i j : Nat} (h:i≤j) : val (r.take i)≤val (r.take j):=by
 have e : r.take j=r.take i ++ (r.take j).drop i:=by
  have h1:=List.take_append_drop i (r.take j)
  rw [List.take_take,Nat.min_eq_left h] at h1
  exact h1.symm
 rw [e]; exact val_app_le _ _
def SizeB (s:List UInt8) (a:Nat) (o:Option (List UInt8×List UInt8)) (e:Ending) : Prop:=
 match o with
 | none=>∃ p q : Int,e=.returned (.tuple #[.int .i64 p,.int .i64 q,.bool false])
 | some (x,r)=>∃ h : Nat,e=.returned (.tuple #[.int .i64 (h:Nat),.int .i64 (x.length : Nat),.bool true])∧(h=1 ↔ a≤55)∧h≤s.length∧s.drop h=x ++ r∧1≤h
theorem tk_none {n : Nat} {s : List UInt8} (h:¬ n≤s.length) : tk n s=none:=if_neg h
theorem tk_some {n : Nat} {s : List UInt8} (h:n≤s.length) : tk n s=some (s.take n,s.drop n):=if_pos h
theorem bodyP_long {a : Nat} (r:List UInt8) (ha:¬ a≤55) (k:Nat) (hk:a-55=k) : bodyP a r=if k≤r.length then (if smallL (r.take k)=true∧55<val (r.take k) then tk (val (r.take k)) (r.drop k) else none) else none:=by
 subst hk
 unfold bodyP
 rw [if_neg ha]
 by_cases h : a-55≤r.length
 ·rw [tk_some h,if_pos h]
 ·rw [tk_none h,if_neg h]
set_option maxRecDepth 100000 in
set_option maxHeartbeats 4000000 in
theorem rsize_none (w:World) : Calls Tryz.prog 157 #[.string ⟨#[]⟩] w fun e w'=>e=.returned (.tuple #[.int .i64 0,.int .i64 0,.bool false])∧w'=w:=by
 go_enter Tryz.func157,Tryz.ntmps157
 go_wp2_with fail
 exact bodyPost_ret (v:=.tuple #[.int .i64 0,.int .i64 0,.bool false]) (by simp [results,Tryz.results157,go_sem]) rfl ⟨rfl,rfl⟩
set_option maxRecDepth 100000 in
set_option maxHeartbeats 4000000 in
theorem rsize_one (b:UInt8) (r:List UInt8) (hb:b.toNat<128) (w:World) : Calls Tryz.prog 157 #[.string (str (b :: r))] w fun e w'=>e=.returned (.tuple #[.int .i64 0,.int .i64 1,.bool true])∧w'=w:=by
 have hix:=rindex0 b r
 have hz : ¬ ((str (b :: r)).size : Int)=0:=by rw [str_size,List.length_cons]; omega
 have hz2 : (((str (b :: r)).size : Int) == 0)=false:=by rw [beq_eq_false_iff_ne]; exact hz
 have h1 : ¬ (192:Int)≤(b.toNat : Int):=by omega
 have h2 : (b.toNat : Int)<128:=by omega
 generalize str (b :: r)=t at *
 generalize b.toNat=m at *
 go_enter Tryz.func157,Tryz.ntmps157
 go_wp2_with fail
 exact bodyPost_ret (v:=.tuple #[.int .i64 0,.int .i64 1,.bool true]) (by simp [results,Tryz.results157,go_sem]) rfl ⟨rfl,rfl⟩
set_option maxRecDepth 100000 in
set_option maxHeartbeats 8000000 in
theorem rsize_128 (b:UInt8) (r:List UInt8) (hb:128≤b.toNat∧b.toNat<192) (hr:r.length<100000) (w:World) : Calls Tryz.prog 157 #[.string (str (b :: r))] w fun e w'=>SizeB (b :: r) (b.toNat-128) (bodyP (b.toNat-128) r) e∧w'=w:=by
 have hix:=rindex0 b r
 have hz : ¬ ((str (b :: r)).size : Int)=0:=by rw [str_size,List.length_cons]; omega
 have hz2 : (((str (b :: r)).size : Int) == 0)=false:=by rw [beq_eq_false_iff_ne]; exact hz
 have hb8:=b.toNat_lt
 have h1 : ¬ (192:Int)≤(b.toNat : Int):=by omega
 have h2 : ¬ (b.toNat : Int)<128:=by omega
 obtain⟨a,ha⟩ : ∃ a,a=b.toNat-128:=⟨_,rfl⟩
 have h3 : (b.toNat : Int)-128=(a:Int):=by omega
 have ha64 : a<64:=by omega
 rw [← ha]
 have hsz : ((str (b :: r)).size : Int)-1=(r.length : Int):=by rw [str_size,List.length_cons]; omega
 by_cases h55 : a≤55
 ·have h4 : (a:Int)≤55:=by omega
  by_cases hl : a≤r.length
  ·have h5 : (a:Int)≤(r.length : Int):=by omega
   have HF:=Lib.hid (show SizeB (b :: r) a (bodyP a r) (.returned (.tuple #[.int .i64 1,.int .i64 (a:Nat),.bool true])) from by
     unfold bodyP
     rw [if_pos h55,tk_some hl]
     exact⟨1,by rw [List.length_take,Nat.min_eq_left hl]; rfl,by simp [h55],by simp,by simp,Nat.le_refl _⟩)
   clear hl h55 ha
   generalize str (b :: r)=t at *
   generalize b.toNat=m at *
   go_enter Tryz.func157,Tryz.ntmps157
   go_wp2_with fail
   exact bodyPost_ret (v:=.tuple #[.int .i64 1,.int .i64 (a:Nat),.bool true]) (by simp [results,Tryz.results157,go_sem]) rfl ⟨HF.out,rfl⟩
  ·have h5 : ¬ (a:Int)≤(r.length : Int):=by omega
   have HF:=Lib.hid (show SizeB (b :: r) a (bodyP a r) (.returned (.tuple #[.int .i64 1,.int .i64 (a:Nat),.bool false])) from by
     unfold bodyP
     rw [if_pos h55,tk_none hl]
     exact⟨_,_,rfl⟩)
   clear hl h55 ha
   generalize str (b :: r)=t at *
   generalize b.toNat=m at *
   go_enter Tryz.func157,Tryz.ntmps157
   go_wp2_with fail
   exact bodyPost_ret (v:=.tuple #[.int .i64 1,.int .i64 (a:Nat),.bool false]) (by simp [results,Tryz.results157,go_sem]) rfl ⟨HF.out,rfl⟩
 ·have h4 : ¬ (a:Int)≤55:=by omega
  obtain⟨k,hk⟩ : ∃ k,a-55=k:=⟨_,rfl⟩
  have h5 : (a:Int)-55=(k:Int):=by omega
  have hk8 : k≤8:=by omega
  have hsz2:=str_size (b :: r)
  rw [List.length_cons] at hsz2
  rw [bodyP_long r h55 k hk]
  have h77 : ∀ e,(∃ p q : Int,e=Ending.returned (.tuple #[.int .i64 p,.int .i64 q,.bool false]))→SizeB (b :: r) a none e:=fun _ h=>h
  by_cases hl : k≤r.length
  ·rw [if_pos hl]
   have h6 : ¬ ((str (b :: r)).size : Int)<1+(k:Int):=by omega
   obtain⟨c,q,rfl⟩ : ∃ c q,r=c :: q:=by
    rcases r with _ | ⟨c,q⟩
    ·simp at hl; omega
    ·exact⟨c,q,rfl⟩
   have hix1:=rindexk (b :: c :: q) 1 (by simp)
   have hc1 : ((1:Nat) : Int)=1:=rfl
   rw [hc1,show (b :: c :: q)[1]=c from rfl] at hix1
   by_cases hc0 : c.toNat=0
   ·have hsm : smallL ((c :: q).take k)=false:=by
     obtain⟨k',rfl⟩ : ∃ k',k=k'+1:=⟨k-1,by omega⟩
     have : c=0:=UInt8.toNat_inj.1 (by simpa using hc0)
     subst this
     simp [smallL]
    rw [hsm]
    simp only [Bool.false_eq_true,false_and,if_false]
    rw [hc0] at hix1
    have HF:=Lib.hid (h77 _ ⟨0,0,rfl⟩)
    clear h77 hsm hc0 hl hk ha h55 hsz2
    generalize str (b :: c :: q)=t at *
    generalize b.toNat=m at *
    go_enter Tryz.func157,Tryz.ntmps157
    go_wp2_with fail
    exact bodyPost_ret (v:=.tuple #[.int .i64 0,.int .i64 0,.bool false]) (by simp [results,Tryz.results157,go_sem]) rfl ⟨HF.out,rfl⟩
   ·have hsm : smallL ((c :: q).take k)=true:=by
     obtain⟨k',rfl⟩ : ∃ k',k=k'+1:=⟨k-1,by omega⟩
     have : ¬ c=0:=fun e=>hc0 (by rw [e]; rfl)
     simp only [smallL,Bool.and_eq_true,decide_eq_true_eq,List.length_take]
     exact⟨by omega,by simpa using this⟩
    have hci : ((c.toNat : Int) == 0)=false:=by rw [beq_eq_false_iff_ne]; omega
    have hci2 : ¬ (c.toNat : Int)=0:=by omega
    rw [hsm]
    simp only [true_and]
    obtain⟨O,hO⟩ : ∃ O,O=(if 55<val ((c :: q).take k) then tk (val ((c :: q).take k)) ((c :: q).drop k) else none):=⟨_,rfl⟩
    rw [← hO]
    have HO:=Lib.hid hO
    clear hO
    have HL:=Lib.hid (And.intro hl (And.intro hr (And.intro h55 (And.intro hk8 hsz2))))
    obtain⟨N,hN⟩ : ∃ N,N=(c :: q).length:=⟨_,rfl⟩
    rw [← hN] at hsz
    have hNb : N<100000:=by omega
    have HN0:=Lib.hid hN
    clear hN
    have HIX:=Lib.hid (fun i (hi:i<(c :: q).length)=>rindexk (b :: c :: q) (1+i) (by simp at hi ⊢; omega))
    have HF:=Lib.hid h77
    have h8i : (k:Int)≤8:=by omega
    clear hsm hc0 hl hk ha h55 hsz2 h77 hr
    generalize ht : str (b :: c :: q)=t at *
    have HT:=Lib.hid ht
    clear ht
    generalize b.toNat=m at *
    go_enter Tryz.func157,Tryz.ntmps157
    go_wp2_with fail
    go_loopw [8,9] (fun n i wr=>∃ j : Nat,n=.int .i64 (val ((c :: q).take j) : Nat)∧i=.int .i64 j∧j≤k∧val ((c :: q).take j)<1000000000∧wr=w) (fun _ i _=>k-(intOf i).toNat)
    case atStart=>exact⟨0,rfl,rfl,Nat.zero_le _,by rw [List.take_zero]; decide,rfl⟩
    case round=>
     obtain⟨j,rfl,rfl,hj,hv,rfl⟩:=hrel
     have HV:=Lib.hid (val_take_le (c :: q) hj)
     by_cases hjk : j<k
     ·have h7 : (j:Int)<(k:Int):=by omega
      by_cases hbig : 1048576<val ((c :: q).take j)
      ·have h8 : (1048576:Int)<(val ((c :: q).take j) : Int):=by omega
       have HN:=Lib.hid (show SizeB (b :: c :: q) a O (.returned (.tuple #[.int .i64 0,.int .i64 0,.bool false])) from by
         have h9:=HV.out
         have h10:=HL.out
         rw [HO.out,if_pos (by omega),tk_none (by rw [List.length_drop]; omega)]
         exact HF.out _ ⟨0,0,rfl⟩)
       clear hbig HV
       generalize val ((c :: q).take j)=v at *
       go_wp2_with fail
       exact bodyPost_ret (v:=.tuple #[.int .i64 0,.int .i64 0,.bool false]) (by simp [results,Tryz.results157,go_sem]) rfl ⟨HN.out,rfl⟩
      ·have h8 : ¬ (1048576:Int)<(val ((c :: q).take j) : Int):=by omega
       have hjl : j<(c :: q).length:=by have:=HL.out; omega
       have hxj:=HIX.out j hjl
       obtain⟨d,hd⟩ : ∃ d,d=(c :: q)[j]'hjl:=⟨_,rfl⟩
       rw [show (b :: c :: q)[1+j]'(by simp at hjl ⊢; omega)=d by rw [hd]; simp [Nat.add_comm 1 j]] at hxj
       have hd8:=d.toNat_lt
       have hc2 : ((1+j : Nat) : Int)=1+(j:Int):=by omega
       rw [hc2] at hxj
       have HVN:=Lib.hid (show val ((c :: q).take (j+1))=val ((c :: q).take j)*256+d.toNat by rw [List.take_succ_eq_append_getElem hjl,val_snoc,← hd])
       clear HV hd
       obtain⟨v,hv2⟩ : ∃ v,v=val ((c :: q).take j):=⟨_,rfl⟩
       rw [← hv2] at h8 hv hbig HVN
       rw [← hv2]
       clear hv2
       generalize d.toNat=dn at *
       go_wp2_with fail
       go_roundw
       case rel=>exact⟨j+1,by rw [HVN.out]; go_num,by go_num,by omega,by rw [HVN.out]; omega,trivial⟩
       case measure=>simp [intOf]; omega
     ·have h7 : ¬ (j:Int)<(k:Int):=by omega
      obtain rfl : j=k:=by omega
      clear hjk HV
      have hk1 : 1+(j:Int)=((1+j : Nat) : Int):=by omega
      have hsl : (t.size : Int)-1-(j:Int)=(((c :: q).drop j).length : Int):=by
       have:=HL.out; rw [List.length_drop]; omega
      have hsl':=hsl
      rw [hsz] at hsl'
      have hdb : ((c :: q).drop j).length≤100000:=by have:=HL.out; rw [List.length_drop]; omega
      by_cases hn5 : 55<val ((c :: q).take j)
      ·have h8 : (55:Int)<(val ((c :: q).take j) : Int):=by omega
       have HO2:=HO.out
       rw [if_pos hn5] at HO2
       by_cases hn6 : val ((c :: q).take j)≤((c :: q).drop j).length
       ·have h9 : (val ((c :: q).take j) : Int)≤(((c :: q).drop j).length : Int):=by omega
        have HN:=Lib.hid (show SizeB (b :: c :: q) a O (.returned (.tuple #[.int .i64 (1+(j:Int)),.int .i64 (val ((c :: q).take j) : Nat),.bool true])) from by
          rw [HO2,tk_some hn6]
          have h10:=HL.out
          refine⟨1+j,by rw [List.length_take,Nat.min_eq_left hn6,hk1],⟨fun h=>by omega,fun h=>absurd h h10.2.2.1⟩,by simp at h10 ⊢; omega,?_,by omega⟩
          rw [Nat.add_comm 1 j,List.take_append_drop]; rfl)
        clear hn5 hn6 hk1 HF HO2
        generalize ((c :: q).drop j).length=dl at *
        generalize val ((c :: q).take j)=v at *
        go_wp2_with fail
        exact bodyPost_ret (v:=.tuple #[.int .i64 (1+(j:Int)),.int .i64 (v:Nat),.bool true]) (by simp [results,Tryz.results157,go_sem]) rfl ⟨HN.out,rfl⟩
       ·have h9 : ¬ (val ((c :: q).take j) : Int)≤(((c :: q).drop j).length : Int):=by omega
        have HN:=Lib.hid (show SizeB (b :: c :: q) a O (.returned (.tuple #[.int .i64 (1+(j:Int)),.int .i64 (val ((c :: q).take j) : Nat),.bool false])) from by
          rw [HO2,tk_none hn6]
          exact HF.out _ ⟨_,_,rfl⟩)
        clear hn5 hn6 hk1 HF HO2
        generalize ((c :: q).drop j).length=dl at *
        generalize val ((c :: q).take j)=v at *
        go_wp2_with fail
        exact bodyPost_ret (v:=.tuple #[.int .i64 (1+(j:Int)),.int .i64 (v:Nat),.bool false]) (by simp [results,Tryz.results157,go_sem]) rfl ⟨HN.out,rfl⟩
      ·have h8 : ¬ (55:Int)<(val ((c :: q).take j) : Int):=by omega
       have HN:=Lib.hid (show SizeB (b :: c :: q) a O (.returned (.tuple #[.int .i64 (1+(j:Int)),.int .i64 (val ((c :: q).take j) : Nat),.bool false])) from by
         rw [HO.out,if_neg hn5]
         exact HF.out _ ⟨_,_,rfl⟩)
       clear hn5 hk1 HF
       generalize val ((c :: q).take j)=v at *
       go_wp2_with fail
       exact bodyPost_ret (v:=.tuple #[.int .i64 (1+(j:Int)),.int .i64 (v:Nat),.bool false]) (by simp [results,Tryz.results157,go_sem]) rfl ⟨HN.out,rfl⟩
  ·rw [if_neg hl]
   have h6 : ((str (b :: r)).size : Int)<1+(k:Int):=by omega
   have HF:=Lib.hid (h77 _ ⟨0,0,rfl⟩)
   clear h77 hl hk ha h55 hsz2
   generalize str (b :: r)=t at *
   generalize b.toNat=m at *
   go_enter Tryz.func157,Tryz.ntmps157
   go_wp2_with fail
   exact bodyPost_ret (v:=.tuple #[.int .i64 0,.int .i64 0,.bool false]) (by simp [results,Tryz.results157,go_sem]) rfl ⟨HF.out,rfl⟩
set_option maxRecDepth 100000 in
set_option maxHeartbeats 8000000 in
theorem rsize_192 (b:UInt8) (r:List UInt8) (hb:192≤b.toNat) (hr:r.length<100000) (w:World) : Calls Tryz.prog 157 #[.string (str (b :: r))] w fun e w'=>SizeB (b :: r) (b.toNat-192) (bodyP (b.toNat-192) r) e∧w'=w:=by
 have hix:=rindex0 b r
 have hz : ¬ ((str (b :: r)).size : Int)=0:=by rw [str_size,List.length_cons]; omega
 have hz2 : (((str (b :: r)).size : Int) == 0)=false:=by rw [beq_eq_false_iff_ne]; exact hz
 have hb8:=b.toNat_lt
 have h1 : (192:Int)≤(b.toNat : Int):=by omega
 have h2 : ¬ (b.toNat : Int)<128:=by omega
 obtain⟨a,ha⟩ : ∃ a,a=b.toNat-192:=⟨_,rfl⟩
 have h3 : (b.toNat : Int)-192=(a:Int):=by omega
 have ha64 : a<64:=by omega
 rw [← ha]
 have hsz : ((str (b :: r)).size : Int)-1=(r.length : Int):=by rw [str_size,List.length_cons]; omega
 by_cases h55 : a≤55
 ·have h4 : (a:Int)≤55:=by omega
  by_cases hl : a≤r.length
  ·have h5 : (a:Int)≤(r.length : Int):=by omega
   have HF:=Lib.hid (show SizeB (b :: r) a (bodyP a r) (.returned (.tuple #[.int .i64 1,.int .i64 (a:Nat),.bool true])) from by
     unfold bodyP
     rw [if_pos h55,tk_some hl]
     exact⟨1,by rw [List.length_take,Nat.min_eq_left hl]; rfl,by simp [h55],by simp,by simp,Nat.le_refl _⟩)
   clear hl h55 ha
   generalize str (b :: r)=t at *
   generalize b.toNat=m at *
   go_enter Tryz.func157,Tryz.ntmps157
   go_wp2_with fail
   exact bodyPost_ret (v:=.tuple #[.int .i64 1,.int .i64 (a:Nat),.bool true]) (by simp [results,Tryz.results157,go_sem]) rfl ⟨HF.out,rfl⟩
  ·have h5 : ¬ (a:Int)≤(r.length : Int):=by omega
   have HF:=Lib.hid (show SizeB (b :: r) a (bodyP a r) (.returned (.tuple #[.int .i64 1,.int .i64 (a:Nat),.bool false])) from by
     unfold bodyP
     rw [if_pos h55,tk_none hl]
     exact⟨_,_,rfl⟩)
   clear hl h55 ha
   generalize str (b :: r)=t at *
   generalize b.toNat=m at *
   go_enter Tryz.func157,Tryz.ntmps157
   go_wp2_with fail
   exact bodyPost_ret (v:=.tuple #[.int .i64 1,.int .i64 (a:Nat),.bool false]) (by simp [results,Tryz.results157,go_sem]) rfl ⟨HF.out,rfl⟩
 ·have h4 : ¬ (a:Int)≤55:=by omega
  obtain⟨k,hk⟩ : ∃ k,a-55=k:=⟨_,rfl⟩
  have h5 : (a:Int)-55=(k:Int):=by omega
  have hk8 : k≤8:=by omega
  have hsz2:=str_size (b :: r)
  rw [List.length_cons] at hsz2
  rw [bodyP_long r h55 k hk]
  have h77 : ∀ e,(∃ p q : Int,e=Ending.returned (.tuple #[.int .i64 p,.int .i64 q,.bool false]))→SizeB (b :: r) a none e:=fun _ h=>h
  by_cases hl : k≤r.length
  ·rw [if_pos hl]
   have h6 : ¬ ((str (b :: r)).size : Int)<1+(k:Int):=by omega
   obtain⟨c,q,rfl⟩ : ∃ c q,r=c :: q:=by
    rcases r with _ | ⟨c,q⟩
    ·simp at hl; omega
    ·exact⟨c,q,rfl⟩
   have hix1:=rindexk (b :: c :: q) 1 (by simp)
   have hc1 : ((1:Nat) : Int)=1:=rfl
   rw [hc1,show (b :: c :: q)[1]=c from rfl] at hix1
   by_cases hc0 : c.toNat=0
   ·have hsm : smallL ((c :: q).take k)=false:=by
     obtain⟨k',rfl⟩ : ∃ k',k=k'+1:=⟨k-1,by omega⟩
     have : c=0:=UInt8.toNat_inj.1 (by simpa using hc0)
     subst this
     simp [smallL]
    rw [hsm]
    simp only [Bool.false_eq_true,false_and,if_false]
    rw [hc0] at hix1
    have HF:=Lib.hid (h77 _ ⟨0,0,rfl⟩)
    clear h77 hsm hc0 hl hk ha h55 hsz2
    generalize str (b :: c :: q)=t at *
    generalize b.toNat=m at *
    go_enter Tryz.func157,Tryz.ntmps157
    go_wp2_with fail
    exact bodyPost_ret (v:=.tuple #[.int .i64 0,.int .i64 0,.bool false]) (by simp [results,Tryz.results157,go_sem]) rfl ⟨HF.out,rfl⟩
   ·have hsm : smallL ((c :: q).take k)=true:=by
     obtain⟨k',rfl⟩ : ∃ k',k=k'+1:=⟨k-1,by omega⟩
     have : ¬ c=0:=fun e=>hc0 (by rw [e]; rfl)
     simp only [smallL,Bool.and_eq_true,decide_eq_true_eq,List.length_take]
     exact⟨by omega,by simpa using this⟩
    have hci : ((c.toNat : Int) == 0)=false:=by rw [beq_eq_false_iff_ne]; omega
    have hci2 : ¬ (c.toNat : Int)=0:=by omega
    rw [hsm]
    simp only [true_and]
    obtain⟨O,hO⟩ : ∃ O,O=(if 55<val ((c :: q).take k) then tk (val ((c :: q).take k)) ((c :: q).drop k) else none):=⟨_,rfl⟩
    rw [← hO]
    have HO:=Lib.hid hO
    clear hO
    have HL:=Lib.hid (And.intro hl (And.intro hr (And.intro h55 (And.intro hk8 hsz2))))
    obtain⟨N,hN⟩ : ∃ N,N=(c :: q).length:=⟨_,rfl⟩
    rw [← hN] at hsz
    have hNb : N<100000:=by omega
    have HN0:=Lib.hid hN
    clear hN
    have HIX:=Lib.hid (fun i (hi:i<(c :: q).length)=>rindexk (b :: c :: q) (1+i) (by simp at hi ⊢; omega))
    have HF:=Lib.hid h77
    have h8i : (k:Int)≤8:=by omega
    clear hsm hc0 hl hk ha h55 hsz2 h77 hr
    generalize ht : str (b :: c :: q)=t at *
    have HT:=Lib.hid ht
    clear ht
    generalize b.toNat=m at *
    go_enter Tryz.func157,Tryz.ntmps157
    go_wp2_with fail
    go_loopw [8,9] (fun n i wr=>∃ j : Nat,n=.int .i64 (val ((c :: q).take j) : Nat)∧i=.int .i64 j∧j≤k∧val ((c :: q).take j)<1000000000∧wr=w) (fun _ i _=>k-(intOf i).toNat)
    case atStart=>exact⟨0,rfl,rfl,Nat.zero_le _,by rw [List.take_zero]; decide,rfl⟩
    case round=>
     obtain⟨j,rfl,rfl,hj,hv,rfl⟩:=hrel
     have HV:=Lib.hid (val_take_le (c :: q) hj)
     by_cases hjk : j<k
     ·have h7 : (j:Int)<(k:Int):=by omega
      by_cases hbig : 1048576<val ((c :: q).take j)
      ·have h8 : (1048576:Int)<(val ((c :: q).take j) : Int):=by omega
       have HN:=Lib.hid (show SizeB (b :: c :: q) a O (.returned (.tuple #[.int .i64 0,.int .i64 0,.bool false])) from by
         have h9:=HV.out
         have h10:=HL.out
         rw [HO.out,if_pos (by omega),tk_none (by rw [List.length_drop]; omega)]
         exact HF.out _ ⟨0,0,rfl⟩)
       clear hbig HV
       generalize val ((c :: q).take j)=v at *
       go_wp2_with fail
       exact bodyPost_ret (v:=.tuple #[.int .i64 0,.int .i64 0,.bool false]) (by simp [results,Tryz.results157,go_sem]) rfl ⟨HN.out,rfl⟩
      ·have h8 : ¬ (1048576:Int)<(val ((c :: q).take j) : Int):=by omega
       have hjl : j<(c :: q).length:=by have:=HL.out; omega
       have hxj:=HIX.out j hjl
       obtain⟨d,hd⟩ : ∃ d,d=(c :: q)[j]'hjl:=⟨_,rfl⟩
       rw [show (b :: c :: q)[1+j]'(by simp at hjl ⊢; omega)=d by rw [hd]; simp [Nat.add_comm 1 j]] at hxj
       have hd8:=d.toNat_lt
       have hc2 : ((1+j : Nat) : Int)=1+(j:Int):=by omega
       rw [hc2] at hxj
       have HVN:=Lib.hid (show val ((c :: q).take (j+1))=val ((c :: q).take j)*256+d.toNat by rw [List.take_succ_eq_append_getElem hjl,val_snoc,← hd])
       clear HV hd
       obtain⟨v,hv2⟩ : ∃ v,v=val ((c :: q).take j):=⟨_,rfl⟩
       rw [← hv2] at h8 hv hbig HVN
       rw [← hv2]
       clear hv2
       generalize d.toNat=dn at *
       go_wp2_with fail
       go_roundw
       case rel=>exact⟨j+1,by rw [HVN.out]; go_num,by go_num,by omega,by rw [HVN.out]; omega,trivial⟩
       case measure=>simp [intOf]; omega
     ·have h7 : ¬ (j:Int)<(k:Int):=by omega
      obtain rfl : j=k:=by omega
      clear hjk HV
      have hk1 : 1+(j:Int)=((1+j : Nat) : Int):=by omega
      have hsl : (t.size : Int)-1-(j:Int)=(((c :: q).drop j).length : Int):=by
       have:=HL.out; rw [List.length_drop]; omega
      have hsl':=hsl
      rw [hsz] at hsl'
      have hdb : ((c :: q).drop j).length≤100000:=by have:=HL.out; rw [List.length_drop]; omega
      by_cases hn5 : 55<val ((c :: q).take j)
      ·have h8 : (55:Int)<(val ((c :: q).take j) : Int):=by omega
       have HO2:=HO.out
       rw [if_pos hn5] at HO2
       by_cases hn6 : val ((c :: q).take j)≤((c :: q).drop j).length
       ·have h9 : (val ((c :: q).take j) : Int)≤(((c :: q).drop j).length : Int):=by omega
        have HN:=Lib.hid (show SizeB (b :: c :: q) a O (.returned (.tuple #[.int .i64 (1+(j:Int)),.int .i64 (val ((c :: q).take j) : Nat),.bool true])) from by
          rw [HO2,tk_some hn6]
          have h10:=HL.out
          refine⟨1+j,by rw [List.length_take,Nat.min_eq_left hn6,hk1],⟨fun h=>by omega,fun h=>absurd h h10.2.2.1⟩,by simp at h10 ⊢; omega,?_,by omega⟩
          rw [Nat.add_comm 1 j,List.take_append_drop]; rfl)
        clear hn5 hn6 hk1 HF HO2
        generalize ((c :: q).drop j).length=dl at *
        generalize val ((c :: q).take j)=v at *
        go_wp2_with fail
        exact bodyPost_ret (v:=.tuple #[.int .i64 (1+(j:Int)),.int .i64 (v:Nat),.bool true]) (by simp [results,Tryz.results157,go_sem]) rfl ⟨HN.out,rfl⟩
       ·have h9 : ¬ (val ((c :: q).take j) : Int)≤(((c :: q).drop j).length : Int):=by omega
        have HN:=Lib.hid (show SizeB (b :: c :: q) a O (.returned (.tuple #[.int .i64 (1+(j:Int)),.int .i64 (val ((c :: q).take j) : Nat),.bool false])) from by
          rw [HO2,tk_none hn6]
          exact HF.out _ ⟨_,_,rfl⟩)
        clear hn5 hn6 hk1 HF HO2
        generalize ((c :: q).drop j).length=dl at *
        generalize val ((c :: q).take j)=v at *
        go_wp2_with fail
        exact bodyPost_ret (v:=.tuple #[.int .i64 (1+(j:Int)),.int .i64 (v:Nat),.bool false]) (by simp [results,Tryz.results157,go_sem]) rfl ⟨HN.out,rfl⟩
      ·have h8 : ¬ (55:Int)<(val ((c :: q).take j) : Int):=by omega
       have HN:=Lib.hid (show SizeB (b :: c :: q) a O (.returned (.tuple #[.int .i64 (1+(j:Int)),.int .i64 (val ((c :: q).take j) : Nat),.bool false])) from by
         rw [HO.out,if_neg hn5]
         exact HF.out _ ⟨_,_,rfl⟩)
       clear hn5 hk1 HF
       generalize val ((c :: q).take j)=v at *
       go_wp2_with fail
       exact bodyPost_ret (v:=.tuple #[.int .i64 (1+(j:Int)),.int .i64 (v:Nat),.bool false]) (by simp [results,Tryz.results157,go_sem]) rfl ⟨HN.out,rfl⟩
  ·rw [if_neg hl]
   have h6 : ((str (b :: r)).size : Int)<1+(k:Int):=by omega
   have HF:=Lib.hid (h77 _ ⟨0,0,rfl⟩)
   clear h77 hl hk ha h55 hsz2
   generalize str (b :: r)=t at *
   generalize b.toNat=m at *
   go_enter Tryz.func157,Tryz.ntmps157
   go_wp2_with fail
   exact bodyPost_ret (v:=.tuple #[.int .i64 0,.int .i64 0,.bool false]) (by simp [results,Tryz.results157,go_sem]) rfl ⟨HF.out,rfl⟩
end Go.Proofs.YtekoaheiapddiaaGreat
end
section
namespace Go.Proofs.YtekoaheiapddiaaGreat
open Go.RowKit
theorem str_cut (s:List UInt8) (i j : Nat) : (str s).extract i j=str ((s.drop i).take (j-i)):=by
 apply ByteArray.ext
 simp [str,ByteArray.data_extract]
theorem bodyP_55 {a : Nat} {r x r' : List UInt8} (h:bodyP a r=some (x,r')) (ha:¬ a≤55) : 55<x.length:=by
 unfold bodyP at h
 rw [if_neg ha] at h
 cases hk : tk (a-55) r with
 | none=>rw [hk] at h; cases h
 | some q=>
  obtain⟨n,q⟩:=q
  rw [hk] at h
  simp only at h
  split at h
  ·next h1=>
   have:=tk_length h
   omega
  ·cases h
def RTakeR (s:List UInt8) (o:Option (Fo×List UInt8)) (w:World) (e:Ending) (w' : World) : Prop:=
 Below w.heap.size w w'∧match o with
  | none=>e=.returned (.tuple #[.agg #[.bool false,.string ⟨#[]⟩,.slice none 0 0],.int .i64 0,.bool false])
  | some (f,r)=>∃ x v,f=It.fo x .nil∧ItV (fun k=>w.heap.size≤k∧k<w'.heap.size) x v w'∧e=.returned (.tuple #[v,.int .i64 ((s.length-r.length : Nat) : Int),.bool true])∧s.drop (s.length-r.length)=r
def RTakeC (d:Nat) : Prop:=∀ (n:Nat) (s:List UInt8) (w:World),n+d=65→s.length≤70000→Calls Tryz.prog 108 #[.string (str s),.int .i64 n] w (RTakeR s (itemP d s) w)
set_option maxRecDepth 100000 in
set_option maxHeartbeats 4000000 in
theorem rtake_none (s:List UInt8) (n:Nat) (w:World) (HS:∀ V,Calls Tryz.prog 157 #[.string (str s)] V fun e w'=>(∃ p q : Int,e=.returned (.tuple #[.int .i64 p,.int .i64 q,.bool false]))∧w'=V) :
  Calls Tryz.prog 108 #[.string (str s),.int .i64 n] w (RTakeR s none w):=by
 replace HS:=Lib.hid HS
 have HB:=Lib.hid (bel_al w (.cells #[.bool false,.string ⟨#[]⟩,.slice none 0 0] 125))
 generalize str s=t at *
 go_enter Tryz.func108,Tryz.ntmps108
 go_wp2_with fail
 go_at_call 157
 refine (HS.out _).mono ?_
 rintro e w1 ⟨⟨p,q,rfl⟩,rfl⟩
 clear HS
 go_wp2_with fail
 exact bodyPost_ret (v:=.tuple #[.agg #[.bool false,.string ⟨#[]⟩,.slice none 0 0],.int .i64 0,.bool false]) (by simp [results,Tryz.results108,go_sem]) rfl ⟨HB.out,rfl⟩
set_option maxRecDepth 100000 in
set_option maxHeartbeats 4000000 in
theorem rtake_deep (s:List UInt8) (n:Nat) (hn:64<n) (w:World) (HS:∀ V,Calls Tryz.prog 157 #[.string (str s)] V fun e w'=>(∃ (p q : Int) (ok:Bool),e=.returned (.tuple #[.int .i64 p,.int .i64 q,.bool ok]))∧w'=V) :
  Calls Tryz.prog 108 #[.string (str s),.int .i64 n] w (RTakeR s none w):=by
 replace HS:=Lib.hid HS
 have hni : (64:Int)<(n:Int):=by omega
 have HB:=Lib.hid (bel_al w (.cells #[.bool false,.string ⟨#[]⟩,.slice none 0 0] 125))
 generalize str s=t at *
 go_enter Tryz.func108,Tryz.ntmps108
 go_wp2_with fail
 go_at_call 157
 refine (HS.out _).mono ?_
 rintro e w1 ⟨⟨p,q,ok,rfl⟩,rfl⟩
 clear HS
 cases ok
 ·go_wp2_with fail
  exact bodyPost_ret (v:=.tuple #[.agg #[.bool false,.string ⟨#[]⟩,.slice none 0 0],.int .i64 0,.bool false]) (by simp [results,Tryz.results108,go_sem]) rfl ⟨HB.out,rfl⟩
 ·go_wp2_with fail
  exact bodyPost_ret (v:=.tuple #[.agg #[.bool false,.string ⟨#[]⟩,.slice none 0 0],.int .i64 0,.bool false]) (by simp [results,Tryz.results108,go_sem]) rfl ⟨HB.out,rfl⟩
theorem rcut (s x r : List UInt8) (h:Nat) (hh:h≤s.length) (hd:s.drop h=x ++ r) (V:World) : (Instr.slice 9 (.string (str s)) (some (.int .i64 (h:Nat))) (some (.int .i64 ((h+x.length : Nat) : Int))) none).run Tryz.prog V=.ok (.string (str x)) V:=by
 have hl:=congrArg List.length hd
 rw [List.length_drop,List.length_append] at hl
 rw [run_slice_string (P:=Tryz.prog) V 9 (str s) .i64 .i64 (h:Int) ((h+x.length : Nat) : Int) Tryz.underlying9 (by omega) (by omega) (by rw [str_size]; omega)]
 rw [Int.toNat_natCast,Int.toNat_natCast,str_cut,hd,show h+x.length-h=x.length by omega,List.take_left']
 rfl
set_option maxRecDepth 100000 in
set_option maxHeartbeats 4000000 in
theorem rtake_text (b:UInt8) (r x r' : List UInt8) (h n : Nat) (hb:b.toNat<192) (hn:n≤64) (hl:(b :: r).length≤70000) (hh:h≤(b :: r).length) (hd:(b :: r).drop h=x ++ r') (w:World)
  (HS:∀ V,Calls Tryz.prog 157 #[.string (str (b :: r))] V fun e w'=>e=.returned (.tuple #[.int .i64 (h:Nat),.int .i64 (x.length : Nat),.bool true])∧w'=V) :
  Calls Tryz.prog 108 #[.string (str (b :: r)),.int .i64 n] w (RTakeR (b :: r) (if h=1∧bareL x=true then none else some (.text x .nil,r')) w):=by
 replace HS:=Lib.hid HS
 have hni : ¬ (64:Int)<(n:Int):=by omega
 have hbi : (b.toNat : Int)<192:=by omega
 have hix:=rindex0 b r
 have hcut:=rcut (b :: r) x r' h hh hd
 have hlen : (b :: r).length=h+x.length+r'.length:=by
  have:=congrArg List.length hd
  rw [List.length_drop,List.length_append] at this; omega
 have hMs : (h:Int)+(x.length : Int)=((h+x.length : Nat) : Int):=by omega
 have hdr : (b :: r).drop ((b :: r).length-r'.length)=r':=by
  rw [show (b :: r).length-r'.length=h+x.length by omega,← List.drop_drop,hd]; simp
 have hM : (b :: r).length-r'.length=h+x.length:=by omega
 have hMb : h+x.length≤70000:=by omega
 by_cases hc : h=1∧bareL x=true
 ·rw [if_pos hc]
  obtain⟨c,rfl,hc1⟩ : ∃ c,x=[c]∧c.toNat<128:=by
   rcases x with _ | ⟨c,_ | ⟨d,q⟩⟩
   ·cases hc.2
   ·exact⟨c,rfl,by simpa [bareL] using hc.2⟩
   ·cases hc.2
  obtain⟨rfl,_⟩:=hc
  have HB:=Lib.hid (bel_al w (.cells #[.bool false,.string ⟨#[]⟩,.slice none 0 0] 125))
  have hixc:=rindex0 c []
  have hci : (c.toNat : Int)<128:=by omega
  have hcut' : ∀ V,(Instr.slice 9 (.string (str (b :: r))) (some (.int .i64 1)) (some (.int .i64 2)) none).run Tryz.prog V=.ok (.string (str [c])) V:=hcut
  have HS':=Lib.hid (show ∀ V,Calls Tryz.prog 157 #[.string (str (b :: r))] V fun e w'=>e=.returned (.tuple #[.int .i64 1,.int .i64 1,.bool true])∧w'=V from HS.out)
  clear hcut hlen hMs hdr hM hMb hd hl hh HS
  generalize str (b :: r)=t at *
  generalize str [c]=tc at *
  generalize b.toNat=bn at *
  generalize c.toNat=cn at *
  go_enter Tryz.func108,Tryz.ntmps108
  go_wp2_with fail
  go_at_call 157
  refine (HS'.out _).mono ?_
  rintro e w1 ⟨rfl,rfl⟩
  clear HS'
  go_wp2_with fail
  exact bodyPost_ret (v:=.tuple #[.agg #[.bool false,.string ⟨#[]⟩,.slice none 0 0],.int .i64 0,.bool false]) (by simp [results,Tryz.results108,go_sem]) rfl ⟨HB.out,rfl⟩
 ·rw [if_neg hc]
  have HB:=Lib.hid (bel_al w (.cells #[.bool false,.string (str x),.slice none 0 0] 125))
  have HF:=Lib.hid (show ∀ w',Below w.heap.size w w'→RTakeR (b :: r) (some (.text x .nil,r')) w (.returned (.tuple #[.agg #[.bool false,.string (str x),.slice none 0 0],.int .i64 ((h+x.length : Nat) : Int),.bool true])) w' from fun w' hb=>
    ⟨hb,.text x,_,rfl,rfl,by rw [hM],hdr⟩)
  have hcond : (((h:Int) == 1)=false∧¬ (h:Int)=1)∨(h=1∧((((x.length : Nat) : Int) == 1)=false∧¬ ((x.length : Nat) : Int)=1))∨(h=1∧∃ c,x=[c]∧¬ (c.toNat : Int)<128):=by
   by_cases h1 : h=1
   ·right
    by_cases hx1 : x.length=1
    ·right
     obtain⟨c,rfl⟩:=List.length_eq_one_iff.1 hx1
     refine⟨h1,c,rfl,fun hc1=>hc ⟨h1,?_⟩⟩
     simp [bareL]; omega
    ·left
     exact⟨h1,by rw [beq_eq_false_iff_ne]; omega,by omega⟩
   ·left
    exact⟨by rw [beq_eq_false_iff_ne]; omega,by omega⟩
  clear hlen hdr hM hd hl hh hc
  rcases hcond with ⟨q1,q2⟩ | ⟨rfl,q1,q2⟩ | ⟨rfl,c,rfl,q1⟩
  ·generalize str (b :: r)=t at *
   generalize str x=tx at *
   generalize b.toNat=bn at *
   generalize h+x.length=M at *
   generalize x.length=N at *
   go_enter Tryz.func108,Tryz.ntmps108
   go_wp2_with fail
   go_at_call 157
   refine (HS.out _).mono ?_
   rintro e w1 ⟨rfl,rfl⟩
   clear HS
   go_wp2_with fail
   exact bodyPost_ret (v:=.tuple #[.agg #[.bool false,.string tx,.slice none 0 0],.int .i64 (M:Nat),.bool true]) (by simp [results,Tryz.results108,go_sem]) rfl (HF.out _ HB.out)
  ·have HS':=Lib.hid (show ∀ V,Calls Tryz.prog 157 #[.string (str (b :: r))] V fun e w'=>e=.returned (.tuple #[.int .i64 1,.int .i64 (x.length : Nat),.bool true])∧w'=V from HS.out)
   have hcut' : ∀ V,(Instr.slice 9 (.string (str (b :: r))) (some (.int .i64 1)) (some (.int .i64 ((1+x.length : Nat) : Int))) none).run Tryz.prog V=.ok (.string (str x)) V:=hcut
   have hMs' : (1:Int)+(x.length : Int)=((1+x.length : Nat) : Int):=by omega
   clear HS hcut hMs
   generalize str (b :: r)=t at *
   generalize str x=tx at *
   generalize b.toNat=bn at *
   generalize 1+x.length=M at *
   generalize x.length=N at *
   go_enter Tryz.func108,Tryz.ntmps108
   go_wp2_with fail
   go_at_call 157
   refine (HS'.out _).mono ?_
   rintro e w1 ⟨rfl,rfl⟩
   clear HS'
   go_wp2_with fail
   exact bodyPost_ret (v:=.tuple #[.agg #[.bool false,.string tx,.slice none 0 0],.int .i64 (M:Nat),.bool true]) (by simp [results,Tryz.results108,go_sem]) rfl (HF.out _ HB.out)
  ·have HS':=Lib.hid (show ∀ V,Calls Tryz.prog 157 #[.string (str (b :: r))] V fun e w'=>e=.returned (.tuple #[.int .i64 1,.int .i64 1,.bool true])∧w'=V from HS.out)
   have hcut' : ∀ V,(Instr.slice 9 (.string (str (b :: r))) (some (.int .i64 1)) (some (.int .i64 2)) none).run Tryz.prog V=.ok (.string (str [c])) V:=hcut
   have HF':=Lib.hid (show ∀ w',Below w.heap.size w w'→RTakeR (b :: r) (some (.text [c] .nil,r')) w (.returned (.tuple #[.agg #[.bool false,.string (str [c]),.slice none 0 0],.int .i64 2,.bool true])) w' from HF.out)
   have hixc:=rindex0 c []
   clear HS hcut hMs HF
   generalize str (b :: r)=t at *
   generalize str [c]=tx at *
   generalize b.toNat=bn at *
   generalize c.toNat=cn at *
   go_enter Tryz.func108,Tryz.ntmps108
   go_wp2_with fail
   go_at_call 157
   refine (HS'.out _).mono ?_
   rintro e w1 ⟨rfl,rfl⟩
   clear HS'
   go_wp2_with fail
   exact bodyPost_ret (v:=.tuple #[.agg #[.bool false,.string tx,.slice none 0 0],.int .i64 2,.bool true]) (by simp [results,Tryz.results108,go_sem]) rfl (HF'.out _ HB.out)
end Go.Proofs.YtekoaheiapddiaaGreat
end
